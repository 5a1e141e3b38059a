/- Contracts of ascii.Hex, ref4.Digit, pct.Decode, ref4.Decode. -/
import Derived.Test.YtjljhkjpogjdhaaGreatDoorPctA
import Derived.Test.YtjljhkjpogjdhaaGreatDoorB1
import Derived.IntWalk
import Derived.Test.YtjljhkjpogjdhaaGreatDoorStep
import Derived.Deep.RegionWith
set_option linter.unusedVariables false
set_option linter.unusedSimpArgs false
set_option maxRecDepth 100000
namespace Go.Proofs.YtjljhkjpogjdhaaGreatDoor
open Go.RowKit

set_option maxHeartbeats 1000000 in
theorem digit_any (c : Int) (w : World) (h0 : 0 ≤ c) (h1 : c ≤ 255) :
    Calls Tryz.prog 49 #[.int .u8 c] w fun e w' => e = .returned (.int .i64 (hexN c)) ∧ w = w' := by
  have HX : Hid (hexN c = if 48 ≤ c ∧ c ≤ 57 then c - 48 else if 97 ≤ c ∧ c ≤ 102 then c - 87 else if 65 ≤ c ∧ c ≤ 70 then c - 55 else -1) := Lib.hid rfl
  by_cases a : 48 ≤ c <;> by_cases b : c ≤ 57 <;> by_cases d : 97 ≤ c <;> by_cases e : c ≤ 102 <;> by_cases f : 65 ≤ c <;> by_cases g : c ≤ 70
  all_goals first
    | (exfalso; omega)
    | (go_enter Tryz.func49, Tryz.ntmps49
       go_wp2
       go_ret
       refine ⟨ret_n ?_, by trivial⟩
       rw [HX.out]
       (repeat' split) <;> first | rfl | omega)

set_option maxHeartbeats 4000000 in
theorem decodeP_any (l : List UInt8) (w : World) (hm : l.length ≤ 1000000) :
    Calls Tryz.prog 33 #[.string ⟨l.toArray⟩] w fun e w' => ∃ v', e = .returned v' ∧ Own w' w.heap.size 5 v' ((pdec l).map u8V) ∧ Below w.heap.size w w' := by
  go_enter Tryz.func33, Tryz.ntmps33
  go_wp2_with (at_make; refine wpList_make0 _ rfl _ _ 43 rfl w.heap.size 5 (.int .u8 0) 1 ok8 _ _ _ l.length rfl rfl rfl (by omega) (by omega) (Nat.le_refl _) ?_)
  intro w0 hown0 hg0
  go_wp2
  go_loopw [3, 4] (fun tv ti wr => ∃ (k : Nat) (ds : List UInt8), k ≤ l.length ∧ ti = .int .i64 k ∧ Own wr w.heap.size 5 tv (ds.map u8V) ∧ ds.length ≤ k ∧ Below w.heap.size w wr ∧ Hid (pdec l = ds ++ pdec (l.drop k))) (fun _ ti _ => l.length - (intOf ti).toNat)
  case atStart => exact ⟨0, [], by omega, rfl, by simpa using hown0, by simp, (Below.refl _ _).grown hg0 (Nat.le_refl _) (fun k h => by cases h), Lib.hid (by simp)⟩
  case round =>
    obtain ⟨k, ds, hk, rfl, hown, hdk, hbel, HR⟩ := hrel
    by_cases hlt : k < l.length
    · have b0 : 0 ≤ byt l k ∧ byt l k ≤ 255 := ⟨byt_lo l k, byt_hi l k⟩
      have b1 : 0 ≤ byt l (k + 1) ∧ byt l (k + 1) ≤ 255 := ⟨byt_lo l _, byt_hi l _⟩
      have b2 : 0 ≤ byt l (k + 2) ∧ byt l (k + 2) ≤ 255 := ⟨byt_lo l _, byt_hi l _⟩
      obtain ⟨b00, b01⟩ := b0
      have hsz := hbel.size
      have HB := Lib.hid hbel
      clear hbel
      have hx := hexN_bd (byt l (k + 1))
      have hy := hexN_bd (byt l (k + 2))
      obtain ⟨x, ex⟩ : ∃ x, hexN (byt l (k + 1)) = x := ⟨_, rfl⟩
      obtain ⟨y, ey⟩ : ∃ y, hexN (byt l (k + 2)) = y := ⟨_, rfl⟩
      rw [ex] at hx
      rw [ey] at hy
      have HX1 := Lib.hid ex
      have HX2 := Lib.hid ey
      have Q1 : Hid (∀ w, Calls Tryz.prog 63 #[.int .u8 (byt l (k + 1))] w fun e w' => e = .returned (.int .i64 x) ∧ w' = w) := Lib.hid (fun w => (hex_any _ w b1.1 b1.2).mono (fun _ _ ⟨p, q⟩ => ⟨by rw [p, HX1.out], q.symm⟩))
      have Q2 : Hid (∀ w, Calls Tryz.prog 63 #[.int .u8 (byt l (k + 2))] w fun e w' => e = .returned (.int .i64 y) ∧ w' = w) := Lib.hid (fun w => (hex_any _ w b2.1 b2.2).mono (fun _ _ ⟨p, q⟩ => ⟨by rw [p, HX2.out], q.symm⟩))
      obtain ⟨hx0, hx1⟩ := hx
      obtain ⟨hy0, hy1⟩ := hy
      by_cases c0 : byt l k = 37
      · by_cases c1 : k + 2 < l.length
        · by_cases c2 : 0 ≤ x
          · by_cases c3 : 0 ≤ y
            · have hp : isPair l k := ⟨c0, c1, by rw [ex]; exact c2, by rw [ey]; exact c3⟩
              have hd := pdec_pair hp
              rw [ex, ey] at hd
              have HD := Lib.hid hd
              have ho := i64_or 4 (x * 16) y (by omega) (by omega) (by omega) c3 (by omega) (by omega)
              have d0 : (byt l k == 37) = true := by rw [beq_iff_eq]; exact c0
              clear hd hp ex ey c0
              go_wp2_with fail
              go_quiet (first | (go_at_call 63; with_reducible exact Calls.quiet_of_same (Q1.out _)) | (go_at_call 63; with_reducible exact Calls.quiet_of_same (Q2.out _)))
              have hown := hown.drew nq
              go_wp2_with (first
                | (go_at_call 63; (with_reducible refine (hex_any (byt l (k + 1)) _ b1.1 b1.2).mono ?_); rintro e w' ⟨rfl, rfl⟩; rw [HX1.out])
                | (go_at_call 63; (with_reducible refine (hex_any (byt l (k + 2)) _ b2.1 b2.2).mono ?_); rintro e w' ⟨rfl, rfl⟩; rw [HX2.out])
                | (at_builtin; refine wpList_appL _ rfl _ _ 43 rfl w.heap.size 5 (.int .u8 0) 1 ok8 _ _ rfl hown #[.int .u8 (x * 16 + y)] 1 1 rfl rfl ?c1 ?c2 ?c3 hsz ?_))
              case c1 => rfl
              case c2 => first | omega | (simp; omega)
              case c3 => first | omega | (simp; omega)
              intro v' w2 hown2 hgr
              have hb2 : Below w.heap.size w w2 := (below_dr HB.out nq).grown hgr hsz (fun k hk => (hown.row k hk).1)
              go_wp2
              go_roundw
              case rel => exact ⟨k + 3, ds ++ [mkB (x * 16 + y)], by omega, by go_num, by rw [List.map_append]; simpa [u8V_mk (show 0 ≤ x * 16 + y by omega) (show x * 16 + y ≤ 255 by omega)] using hown2, by simp; omega, hb2, Lib.hid (by rw [HR.out, HD.out]; simp)⟩
              case measure => simp [intOf]; omega
            · have HD := Lib.hid (pdec_one hlt (fun h => c3 (by rw [← ey]; exact h.2.2.2)))
              have d0 : (byt l k == 37) = true := by rw [beq_iff_eq]; exact c0
              clear ex ey c0
              go_wp2_with fail
              go_quiet (first | (go_at_call 63; with_reducible exact Calls.quiet_of_same (Q1.out _)) | (go_at_call 63; with_reducible exact Calls.quiet_of_same (Q2.out _)))
              have hown := hown.drew nq
              go_wp2_with (first
                | (go_at_call 63; (with_reducible refine (hex_any (byt l (k + 1)) _ b1.1 b1.2).mono ?_); rintro e w' ⟨rfl, rfl⟩; rw [HX1.out])
                | (go_at_call 63; (with_reducible refine (hex_any (byt l (k + 2)) _ b2.1 b2.2).mono ?_); rintro e w' ⟨rfl, rfl⟩; rw [HX2.out])
                | (at_builtin; refine wpList_appL _ rfl _ _ 43 rfl w.heap.size 5 (.int .u8 0) 1 ok8 _ _ rfl hown #[.int .u8 (byt l k)] 1 1 rfl rfl ?c1 ?c2 ?c3 hsz ?_))
              case c1 => rfl
              case c2 => first | omega | (simp; omega)
              case c3 => first | omega | (simp; omega)
              intro v' w2 hown2 hgr
              have hb2 : Below w.heap.size w w2 := (below_dr HB.out nq).grown hgr hsz (fun k hk => (hown.row k hk).1)
              go_wp2
              go_roundw
              case rel => exact ⟨k + 1, ds ++ [mkB (byt l k)], by omega, by go_num, by rw [List.map_append]; simpa [u8V_mk (show 0 ≤ byt l k by omega) (show byt l k ≤ 255 by omega)] using hown2, by simp; omega, hb2, Lib.hid (by rw [HR.out, HD.out]; simp)⟩
              case measure => simp [intOf]; omega
          · have HD := Lib.hid (pdec_one hlt (fun h => c2 (by rw [← ex]; exact h.2.2.1)))
            have d0 : (byt l k == 37) = true := by rw [beq_iff_eq]; exact c0
            clear ex ey c0
            go_wp2_with fail
            go_quiet (first | (go_at_call 63; with_reducible exact Calls.quiet_of_same (Q1.out _)) | (go_at_call 63; with_reducible exact Calls.quiet_of_same (Q2.out _)))
            have hown := hown.drew nq
            go_wp2_with (first
              | (go_at_call 63; (with_reducible refine (hex_any (byt l (k + 1)) _ b1.1 b1.2).mono ?_); rintro e w' ⟨rfl, rfl⟩; rw [HX1.out])
              | (go_at_call 63; (with_reducible refine (hex_any (byt l (k + 2)) _ b2.1 b2.2).mono ?_); rintro e w' ⟨rfl, rfl⟩; rw [HX2.out])
              | (at_builtin; refine wpList_appL _ rfl _ _ 43 rfl w.heap.size 5 (.int .u8 0) 1 ok8 _ _ rfl hown #[.int .u8 (byt l k)] 1 1 rfl rfl ?c1 ?c2 ?c3 hsz ?_))
            case c1 => rfl
            case c2 => first | omega | (simp; omega)
            case c3 => first | omega | (simp; omega)
            intro v' w2 hown2 hgr
            have hb2 : Below w.heap.size w w2 := (below_dr HB.out nq).grown hgr hsz (fun k hk => (hown.row k hk).1)
            go_wp2
            go_roundw
            case rel => exact ⟨k + 1, ds ++ [mkB (byt l k)], by omega, by go_num, by rw [List.map_append]; simpa [u8V_mk (show 0 ≤ byt l k by omega) (show byt l k ≤ 255 by omega)] using hown2, by simp; omega, hb2, Lib.hid (by rw [HR.out, HD.out]; simp)⟩
            case measure => simp [intOf]; omega
        · have HD := Lib.hid (pdec_one hlt (fun h => c1 h.2.1))
          have d0 : (byt l k == 37) = true := by rw [beq_iff_eq]; exact c0
          clear ex ey c0
          go_wp2_with (first
            | (go_at_call 63; (with_reducible refine (hex_any (byt l (k + 1)) _ b1.1 b1.2).mono ?_); rintro e w' ⟨rfl, rfl⟩; rw [HX1.out])
            | (go_at_call 63; (with_reducible refine (hex_any (byt l (k + 2)) _ b2.1 b2.2).mono ?_); rintro e w' ⟨rfl, rfl⟩; rw [HX2.out])
            | (at_builtin; refine wpList_appL _ rfl _ _ 43 rfl w.heap.size 5 (.int .u8 0) 1 ok8 _ _ rfl hown #[.int .u8 (byt l k)] 1 1 rfl rfl ?c1 ?c2 ?c3 hsz ?_))
          case c1 => rfl
          case c2 => first | omega | (simp; omega)
          case c3 => first | omega | (simp; omega)
          intro v' w2 hown2 hgr
          have hb2 : Below w.heap.size w w2 := HB.out.grown hgr hsz (fun k hk => (hown.row k hk).1)
          go_wp2
          go_roundw
          case rel => exact ⟨k + 1, ds ++ [mkB (byt l k)], by omega, by go_num, by rw [List.map_append]; simpa [u8V_mk (show 0 ≤ byt l k by omega) (show byt l k ≤ 255 by omega)] using hown2, by simp; omega, hb2, Lib.hid (by rw [HR.out, HD.out]; simp)⟩
          case measure => simp [intOf]; omega
      · have HD := Lib.hid (pdec_one hlt (fun h => c0 h.1))
        have d0 : (byt l k == 37) = false := by rw [beq_eq_false_iff_ne]; exact c0
        clear ex ey c0
        go_wp2_with (first
          | (go_at_call 63; (with_reducible refine (hex_any (byt l (k + 1)) _ b1.1 b1.2).mono ?_); rintro e w' ⟨rfl, rfl⟩; rw [HX1.out])
          | (go_at_call 63; (with_reducible refine (hex_any (byt l (k + 2)) _ b2.1 b2.2).mono ?_); rintro e w' ⟨rfl, rfl⟩; rw [HX2.out])
          | (at_builtin; refine wpList_appL _ rfl _ _ 43 rfl w.heap.size 5 (.int .u8 0) 1 ok8 _ _ rfl hown #[.int .u8 (byt l k)] 1 1 rfl rfl ?c1 ?c2 ?c3 hsz ?_))
        case c1 => rfl
        case c2 => first | omega | (simp; omega)
        case c3 => first | omega | (simp; omega)
        intro v' w2 hown2 hgr
        have hb2 : Below w.heap.size w w2 := HB.out.grown hgr hsz (fun k hk => (hown.row k hk).1)
        go_wp2
        go_roundw
        case rel => exact ⟨k + 1, ds ++ [mkB (byt l k)], by omega, by go_num, by rw [List.map_append]; simpa [u8V_mk (show 0 ≤ byt l k by omega) (show byt l k ≤ 255 by omega)] using hown2, by simp; omega, hb2, Lib.hid (by rw [HR.out, HD.out]; simp)⟩
        case measure => simp [intOf]; omega
    · obtain rfl : k = l.length := by omega
      go_wp2
      go_ret
      refine ⟨_, rfl, ?_, hbel⟩
      rw [HR.out, pdec_nil (l := l.drop l.length) (by simp)]
      simpa using hown

set_option maxHeartbeats 4000000 in
theorem rdecodeP_any (l : List UInt8) (w : World) (hm : l.length ≤ 1000000) :
    Calls Tryz.prog 21 #[.string ⟨l.toArray⟩] w fun e w' => ∃ v', e = .returned v' ∧ Own w' w.heap.size 5 v' ((pdec l).map u8V) ∧ Below w.heap.size w w' := by
  go_enter Tryz.func21, Tryz.ntmps21
  go_wp2
  go_loopw [3, 4] (fun tv ti wr => ∃ (k : Nat) (ds : List UInt8), k ≤ l.length ∧ ti = .int .i64 k ∧ Own wr w.heap.size 5 tv (ds.map u8V) ∧ ds.length ≤ k ∧ Below w.heap.size w wr ∧ Hid (pdec l = ds ++ pdec (l.drop k))) (fun _ ti _ => l.length - (intOf ti).toNat)
  case atStart => exact ⟨0, [], by omega, rfl, by simpa using Own.nil _ _ _, by simp, Below.refl _ _, Lib.hid (by simp)⟩
  case round =>
    obtain ⟨k, ds, hk, rfl, hown, hdk, hbel, HR⟩ := hrel
    by_cases hlt : k < l.length
    · have b0 : 0 ≤ byt l k ∧ byt l k ≤ 255 := ⟨byt_lo l k, byt_hi l k⟩
      have b1 : 0 ≤ byt l (k + 1) ∧ byt l (k + 1) ≤ 255 := ⟨byt_lo l _, byt_hi l _⟩
      have b2 : 0 ≤ byt l (k + 2) ∧ byt l (k + 2) ≤ 255 := ⟨byt_lo l _, byt_hi l _⟩
      obtain ⟨b00, b01⟩ := b0
      have hsz := hbel.size
      have HB := Lib.hid hbel
      clear hbel
      have hx := hexN_bd (byt l (k + 1))
      have hy := hexN_bd (byt l (k + 2))
      obtain ⟨x, ex⟩ : ∃ x, hexN (byt l (k + 1)) = x := ⟨_, rfl⟩
      obtain ⟨y, ey⟩ : ∃ y, hexN (byt l (k + 2)) = y := ⟨_, rfl⟩
      rw [ex] at hx
      rw [ey] at hy
      have HX1 := Lib.hid ex
      have HX2 := Lib.hid ey
      have Q1 : Hid (∀ w, Calls Tryz.prog 49 #[.int .u8 (byt l (k + 1))] w fun e w' => e = .returned (.int .i64 x) ∧ w' = w) := Lib.hid (fun w => (digit_any _ w b1.1 b1.2).mono (fun _ _ ⟨p, q⟩ => ⟨by rw [p, HX1.out], q.symm⟩))
      have Q2 : Hid (∀ w, Calls Tryz.prog 49 #[.int .u8 (byt l (k + 2))] w fun e w' => e = .returned (.int .i64 y) ∧ w' = w) := Lib.hid (fun w => (digit_any _ w b2.1 b2.2).mono (fun _ _ ⟨p, q⟩ => ⟨by rw [p, HX2.out], q.symm⟩))
      obtain ⟨hx0, hx1⟩ := hx
      obtain ⟨hy0, hy1⟩ := hy
      by_cases c0 : byt l k = 37
      · by_cases c1 : k + 2 < l.length
        · by_cases c2 : 0 ≤ x
          · by_cases c3 : 0 ≤ y
            · have hp : isPair l k := ⟨c0, c1, by rw [ex]; exact c2, by rw [ey]; exact c3⟩
              have hd := pdec_pair hp
              rw [ex, ey] at hd
              have HD := Lib.hid hd
              have ho := i64_or 4 (x * 16) y (by omega) (by omega) (by omega) c3 (by omega) (by omega)
              have d0 : (byt l k == 37) = true := by rw [beq_iff_eq]; exact c0
              clear hd hp ex ey c0
              have e1 : (k : Int) + 1 < l.length := by omega
              have e2 : (k : Int) + 2 < l.length := by omega
              have hc1 : ∀ u ∈ (#[Value.int .u8 (x * 16 + y)] : Array Value).toList, u.oneCell' = true := by intro u hu; simp at hu; subst hu; rfl
              have hc2 : ((ds.map u8V).length + 1) * 1 ≤ 140737488355328 := by simp; omega
              have hc3 : (ds.map u8V).length + 1 ≤ 9223372036854775807 := by simp; omega
              go_wp2_with (first
                | (go_at_call 49; (with_reducible refine (digit_any (byt l (k + 1)) _ b1.1 b1.2).mono ?_); rintro e w' ⟨rfl, rfl⟩; rw [HX1.out])
                | (go_at_call 49; (with_reducible refine (digit_any (byt l (k + 2)) _ b2.1 b2.2).mono ?_); rintro e w' ⟨rfl, rfl⟩; rw [HX2.out]))
              have g1 : IntKind.i64.wrap ((k : Int) + 1) = (k : Int) + 1 := IntWalk.i64_in _ (by omega)
              have g2 : IntKind.i64.wrap ((k : Int) + 2) = (k : Int) + 2 := IntWalk.i64_in _ (by omega)
              have g3 : (0 : Int) ≤ (k : Int) + 1 := by omega
              have g4 : (0 : Int) ≤ (k : Int) + 2 := by omega
              have g5 : ((k : Int) + 1).toNat = k + 1 := by omega
              have g6 : ((k : Int) + 2).toNat = k + 2 := by omega
              have g7 : k + 1 < l.length := by omega
              have g9 : IntKind.u8.wrap (x * 16 + y) = x * 16 + y := IntWalk.u8_in _ (by omega)
              have g8 : IntKind.i64.wrap (x * 16) = x * 16 := IntWalk.i64_in _ (by omega)
              go_region_law (first
                | (refine step_appL _ rfl _ _ 43 rfl w.heap.size 5 (.int .u8 0) 1 ok8 _ _ (by simp [Act.eval, Act.put]) (hown.drew 1) #[.int .u8 (x * 16 + y)] 1 1 (by simp [Act.eval, Act.put]) rfl hc1 hc2 hc3 hsz ?_; intro v' w2 hown2 hgr)
                | (go_simp; go_at_call 49; (with_reducible refine (digit_any (byt l (k + 1)) _ b1.1 b1.2).mono ?_); rintro e w' ⟨rfl, rfl⟩; rw [HX1.out])
                | (go_simp; go_at_call 49; (with_reducible refine (digit_any (byt l (k + 2)) _ b2.1 b2.2).mono ?_); rintro e w' ⟨rfl, rfl⟩; rw [HX2.out]))
              all_goals
                have hb2 : Below w.heap.size w w2 := (below_dr HB.out 1).grown hgr hsz (fun k hk => (hown.row k hk).1)
                clear g1 g2 g5 g6 g8 g9 ho
                go_wp2
                go_roundw
                case rel => exact ⟨k + 3, ds ++ [mkB (x * 16 + y)], by omega, by go_num, by rw [List.map_append]; simpa [u8V_mk (show 0 ≤ x * 16 + y by omega) (show x * 16 + y ≤ 255 by omega)] using hown2, by simp; omega, hb2, Lib.hid (by rw [HR.out, HD.out]; simp)⟩
                case measure => simp [intOf]; omega
            · have HD := Lib.hid (pdec_one hlt (fun h => c3 (by rw [← ey]; exact h.2.2.2)))
              have d0 : (byt l k == 37) = true := by rw [beq_iff_eq]; exact c0
              clear ex ey c0
              go_wp2_with (first
                | (go_at_call 49; (with_reducible refine (digit_any (byt l (k + 1)) _ b1.1 b1.2).mono ?_); rintro e w' ⟨rfl, rfl⟩; rw [HX1.out])
                | (go_at_call 49; (with_reducible refine (digit_any (byt l (k + 2)) _ b2.1 b2.2).mono ?_); rintro e w' ⟨rfl, rfl⟩; rw [HX2.out])
                | (at_builtin; refine wpList_appL _ rfl _ _ 43 rfl w.heap.size 5 (.int .u8 0) 1 ok8 _ _ rfl hown #[.int .u8 (byt l k)] 1 1 rfl rfl ?c1 ?c2 ?c3 hsz ?_))
              case c1 => rfl
              case c2 => first | omega | (simp; omega)
              case c3 => first | omega | (simp; omega)
              intro v' w2 hown2 hgr
              have hb2 : Below w.heap.size w w2 := HB.out.grown hgr hsz (fun k hk => (hown.row k hk).1)
              go_wp2
              go_roundw
              case rel => exact ⟨k + 1, ds ++ [mkB (byt l k)], by omega, by go_num, by rw [List.map_append]; simpa [u8V_mk (show 0 ≤ byt l k by omega) (show byt l k ≤ 255 by omega)] using hown2, by simp; omega, hb2, Lib.hid (by rw [HR.out, HD.out]; simp)⟩
              case measure => simp [intOf]; omega
          · have HD := Lib.hid (pdec_one hlt (fun h => c2 (by rw [← ex]; exact h.2.2.1)))
            have d0 : (byt l k == 37) = true := by rw [beq_iff_eq]; exact c0
            clear ex ey c0
            go_wp2_with (first
              | (go_at_call 49; (with_reducible refine (digit_any (byt l (k + 1)) _ b1.1 b1.2).mono ?_); rintro e w' ⟨rfl, rfl⟩; rw [HX1.out])
              | (go_at_call 49; (with_reducible refine (digit_any (byt l (k + 2)) _ b2.1 b2.2).mono ?_); rintro e w' ⟨rfl, rfl⟩; rw [HX2.out])
              | (at_builtin; refine wpList_appL _ rfl _ _ 43 rfl w.heap.size 5 (.int .u8 0) 1 ok8 _ _ rfl hown #[.int .u8 (byt l k)] 1 1 rfl rfl ?c1 ?c2 ?c3 hsz ?_))
            case c1 => rfl
            case c2 => first | omega | (simp; omega)
            case c3 => first | omega | (simp; omega)
            intro v' w2 hown2 hgr
            have hb2 : Below w.heap.size w w2 := HB.out.grown hgr hsz (fun k hk => (hown.row k hk).1)
            go_wp2
            go_roundw
            case rel => exact ⟨k + 1, ds ++ [mkB (byt l k)], by omega, by go_num, by rw [List.map_append]; simpa [u8V_mk (show 0 ≤ byt l k by omega) (show byt l k ≤ 255 by omega)] using hown2, by simp; omega, hb2, Lib.hid (by rw [HR.out, HD.out]; simp)⟩
            case measure => simp [intOf]; omega
        · have HD := Lib.hid (pdec_one hlt (fun h => c1 h.2.1))
          have d0 : (byt l k == 37) = true := by rw [beq_iff_eq]; exact c0
          clear ex ey c0
          go_wp2_with (first
            | (go_at_call 49; (with_reducible refine (digit_any (byt l (k + 1)) _ b1.1 b1.2).mono ?_); rintro e w' ⟨rfl, rfl⟩; rw [HX1.out])
            | (go_at_call 49; (with_reducible refine (digit_any (byt l (k + 2)) _ b2.1 b2.2).mono ?_); rintro e w' ⟨rfl, rfl⟩; rw [HX2.out])
            | (at_builtin; refine wpList_appL _ rfl _ _ 43 rfl w.heap.size 5 (.int .u8 0) 1 ok8 _ _ rfl hown #[.int .u8 (byt l k)] 1 1 rfl rfl ?c1 ?c2 ?c3 hsz ?_))
          case c1 => rfl
          case c2 => first | omega | (simp; omega)
          case c3 => first | omega | (simp; omega)
          intro v' w2 hown2 hgr
          have hb2 : Below w.heap.size w w2 := HB.out.grown hgr hsz (fun k hk => (hown.row k hk).1)
          go_wp2
          go_roundw
          case rel => exact ⟨k + 1, ds ++ [mkB (byt l k)], by omega, by go_num, by rw [List.map_append]; simpa [u8V_mk (show 0 ≤ byt l k by omega) (show byt l k ≤ 255 by omega)] using hown2, by simp; omega, hb2, Lib.hid (by rw [HR.out, HD.out]; simp)⟩
          case measure => simp [intOf]; omega
      · have HD := Lib.hid (pdec_one hlt (fun h => c0 h.1))
        have d0 : (byt l k == 37) = false := by rw [beq_eq_false_iff_ne]; exact c0
        clear ex ey c0
        go_wp2_with (first
          | (go_at_call 49; (with_reducible refine (digit_any (byt l (k + 1)) _ b1.1 b1.2).mono ?_); rintro e w' ⟨rfl, rfl⟩; rw [HX1.out])
          | (go_at_call 49; (with_reducible refine (digit_any (byt l (k + 2)) _ b2.1 b2.2).mono ?_); rintro e w' ⟨rfl, rfl⟩; rw [HX2.out])
          | (at_builtin; refine wpList_appL _ rfl _ _ 43 rfl w.heap.size 5 (.int .u8 0) 1 ok8 _ _ rfl hown #[.int .u8 (byt l k)] 1 1 rfl rfl ?c1 ?c2 ?c3 hsz ?_))
        case c1 => rfl
        case c2 => first | omega | (simp; omega)
        case c3 => first | omega | (simp; omega)
        intro v' w2 hown2 hgr
        have hb2 : Below w.heap.size w w2 := HB.out.grown hgr hsz (fun k hk => (hown.row k hk).1)
        go_wp2
        go_roundw
        case rel => exact ⟨k + 1, ds ++ [mkB (byt l k)], by omega, by go_num, by rw [List.map_append]; simpa [u8V_mk (show 0 ≤ byt l k by omega) (show byt l k ≤ 255 by omega)] using hown2, by simp; omega, hb2, Lib.hid (by rw [HR.out, HD.out]; simp)⟩
        case measure => simp [intOf]; omega
    · obtain rfl : k = l.length := by omega
      go_wp2
      go_ret
      refine ⟨_, rfl, ?_, hbel⟩
      rw [HR.out, pdec_nil (l := l.drop l.length) (by simp)]
      simpa using hown
end Go.Proofs.YtjljhkjpogjdhaaGreatDoor
