/- Its functions, each with what it does. -/
import Derived.Test.YtojombahfmicbaaGreatDoorVc7
import Derived.Test.YtojombahfmicbaaGreatDoorFin
import Derived.Test.YtojombahfmicbaaGreatDoorProg
import Derived.ProofKit
import Derived.IntWalk
set_option linter.unusedVariables false
set_option linter.unusedSimpArgs false
set_option maxRecDepth 100000
set_option maxHeartbeats 4000000
/- The function gossamer/ascii.Letter does what is told of it. -/
namespace Go.Proofs.YtojombahfmicbaaGreatDoor
open Go Go.Proofs Go.RowKit Go.Vc

def X_letter : Tbl := tblX []
def H_letter (z : Int) : Loops := fun i => none
theorem X_letter_ok : XOk Tryz.prog noT X_letter := tblX_nil
theorem vc_letter (z : Int) (k : PV → Prop) : evF Tryz.prog X_letter noT (H_letter z) 1000 Tryz.f11 [.int .u8 z] k = (
  k
    (Go.Vc.PV.bool
      (bif decide ((97 : Int) ≤ Go.Vc.bitsZ Go.BinOp.or Go.IntKind.u8 z (32 : Int)) then decide (Go.Vc.bitsZ Go.BinOp.or Go.IntKind.u8 z (32 : Int) ≤ (122 : Int))
      else false))) := by kernel_rfl
theorem ok_letter (z : Int) : FuncOk Tryz.prog noT 11 [.int .u8 z] ⟨0 ≤ z ∧ z ≤ 255, .bool (decide (97 ≤ z ∧ z ≤ 122 ∨ 65 ≤ z ∧ z ≤ 90))⟩ := evF_ok (by kernel_rfl) X_letter_ok (H := H_letter z) (fuel := 1000) Tryz.func11 (by kernel_rfl) fun hpre => (vc_letter z _).mpr (by
  show PV.bool _ = PV.bool _
  congr 1
  obtain ⟨n, rfl⟩ : ∃ n : Nat, z = n := ⟨z.toNat, by omega⟩
  have all : ∀ m : Fin 256, (bif decide ((97 : Int) ≤ bitsZ BinOp.or IntKind.u8 (m.val : Int) (32 : Int)) then decide (bitsZ BinOp.or IntKind.u8 (m.val : Int) (32 : Int) ≤ (122 : Int)) else false) = decide (97 ≤ (m.val : Int) ∧ (m.val : Int) ≤ 122 ∨ 65 ≤ (m.val : Int) ∧ (m.val : Int) ≤ 90) := by decide +kernel
  exact all ⟨n, by omega⟩)
def ent_letter : List PV → Option CallR := fun xs => match xs with
  | [.int .u8 z] => some ⟨0 ≤ z ∧ z ≤ 255, .bool (decide (97 ≤ z ∧ z ≤ 122 ∨ 65 ≤ z ∧ z ≤ 90))⟩
  | _ => none
theorem ent_letter_ok : ∀ xs c, ent_letter xs = some c → FuncOk Tryz.prog noT 11 xs c := fun xs c h => by
  unfold ent_letter at h
  split at h
  · injection h with h; subst h; exact ok_letter _
  · cases h
end Go.Proofs.YtojombahfmicbaaGreatDoor

/- The function gossamer/ascii.Digit does what is told of it. -/
namespace Go.Proofs.YtojombahfmicbaaGreatDoor
open Go Go.Proofs Go.RowKit Go.Vc

def X_digit : Tbl := tblX []
def H_digit (z : Int) : Loops := fun i => none
theorem X_digit_ok : XOk Tryz.prog noT X_digit := tblX_nil
theorem vc_digit (z : Int) (k : PV → Prop) : evF Tryz.prog X_digit noT (H_digit z) 1000 Tryz.f13 [.int .u8 z] k = (
  k (Go.Vc.PV.bool (bif decide (48 ≤ z) then decide (z ≤ 57) else false))) := by kernel_rfl
theorem ok_digit (z : Int) : FuncOk Tryz.prog noT 13 [.int .u8 z] ⟨True, .bool (decide (48 ≤ z ∧ z ≤ 57))⟩ := evF_ok (by kernel_rfl) X_digit_ok (H := H_digit z) (fuel := 1000) Tryz.func13 (by kernel_rfl) fun hpre => (vc_digit z _).mpr (by
  show PV.bool _ = PV.bool _
  congr 1
  by_cases h : 48 ≤ z <;> simp [h])
def ent_digit : List PV → Option CallR := fun xs => match xs with
  | [.int .u8 z] => some ⟨True, .bool (decide (48 ≤ z ∧ z ≤ 57))⟩
  | _ => none
theorem ent_digit_ok : ∀ xs c, ent_digit xs = some c → FuncOk Tryz.prog noT 13 xs c := fun xs c h => by
  unfold ent_digit at h
  split at h
  · injection h with h; subst h; exact ok_digit _
  · cases h
end Go.Proofs.YtojombahfmicbaaGreatDoor

/- The function gossamer/ascii.Lower does what is told of it. -/
namespace Go.Proofs.YtojombahfmicbaaGreatDoor
open Go Go.Proofs Go.RowKit Go.Vc

theorem i64_lt {n : Nat} {i : Int} (h : decide (i < (n : Int)) = true) : i < n := of_decide_eq_true h
def lowB1 (c : UInt8) : UInt8 := if 65 ≤ c.toNat ∧ c.toNat ≤ 90 then c + 32 else c
def lowB (l : Bs) : Bs := l.map lowB1
theorem lowB_at {l : Bs} {z : Int} (h0 : 0 ≤ z) (h1 : z < (l.length : Int)) : (lowB l)[z.toNat]? = some (lowB1 (l.getD z.toNat 0)) := by
  have : z.toNat < l.length := by omega
  unfold lowB
  rw [List.getElem?_map, List.getElem?_eq_getElem this, List.getD_eq_getElem?_getD, List.getElem?_eq_getElem this]
  rfl
theorem low_yes {l : Bs} {z : Int} (h : (bif decide ((65 : Int) ≤ byteZ l z) then decide (byteZ l z ≤ (90 : Int)) else false) = true) : IntKind.u8.wrap (byteZ l z + (32 : Int)) = byteZ l z + 32 ∧ byteZ l z ≤ 90 ∧ zByte (byteZ l z + 32) = lowB1 (l.getD z.toNat 0) := by
  have hr := byteZ_range l z
  cases h1 : decide ((65 : Int) ≤ byteZ l z) with
  | false => rw [h1] at h; cases h
  | true =>
    rw [h1] at h
    have h2 : byteZ l z ≤ 90 := of_decide_eq_true h
    have h3 : 65 ≤ byteZ l z := of_decide_eq_true h1
    refine ⟨IntWalk.u8_in _ (by omega), h2, ?_⟩
    unfold byteZ at h2 h3
    unfold lowB1 zByte byteZ
    rw [if_pos (by omega)]
    apply UInt8.toNat_inj.1
    rw [UInt8.toNat_add]
    have e : (((l.getD z.toNat 0).toNat : Int) + 32).toNat = (l.getD z.toNat 0).toNat + 32 := by omega
    rw [e]
    simp
theorem low_no {l : Bs} {z : Int} (h : (bif decide ((65 : Int) ≤ byteZ l z) then decide (byteZ l z ≤ (90 : Int)) else false) = false) : zByte (byteZ l z) = lowB1 (l.getD z.toNat 0) := by
  rw [zByte_byteZ]
  unfold lowB1
  rw [if_neg]
  intro hh
  have h3 : (65 : Int) ≤ byteZ l z := by unfold byteZ; omega
  have h4 : byteZ l z ≤ (90 : Int) := by unfold byteZ; omega
  rw [decide_eq_true h3, decide_eq_true h4] at h
  cases h

def X_lower : Tbl := tblX []
def H_lower (nl : Bool) (l : Bs) : Loops := fun i => bif Nat.beq i 3 then some ⟨(Bool × Bs) × (Int), (fun s x => ((((((s.row s 3 x.1.1 (.bytes x.1.2)).put 11 (.int .i64 x.2)).put 4 .undef).put 5 .undef).put 12 .undef).put 21 .undef)), (fun s => ((s.nil 3, s.bytes 3), s.int 11)), (fun s x => let low := x.1; let i := x.2; 0 ≤ i ∧ i ≤ l.length ∧ low.1 = false ∧ low.2 = (lowB l).take i.toNat ++ List.replicate (l.length - i.toNat) 0), (fun s x => let low := x.1; let i := x.2; ((l.length : Int) - i).toNat), [4, 5, 12, 21]⟩ else none
theorem X_lower_ok : XOk Tryz.prog noT X_lower := tblX_nil
theorem vc_lower (nl : Bool) (l : Bs) (k : PV → Prop) : evF Tryz.prog X_lower noT (H_lower nl l) 1000 Tryz.f12 [.row nl (.bytes l) 0] k = (
  ((0 : Int) ≤ Int.ofNat (List.length l) ∧ Int.ofNat (List.length l) ≤ Int.ofNat (List.length l) ∧ Int.ofNat (List.length l) ≤ Go.Vc.maxRow) ∧
    Go.Vc.VS.mk []
          [(nat_lit 0, Go.Vc.PV.row nl (Go.Vc.BRow.bytes l) (0 : Nat)), (nat_lit 2, Go.Vc.PV.str (ByteArray.mk #[]).data.toList),
            (nat_lit 3, Go.Vc.PV.row false (Go.Vc.BRow.bytes (List.replicate (Int.ofNat (List.length l)).toNat (0 : UInt8))) ((8 : Nat) + (32 : Nat))),
            ((4 : Nat), Go.Vc.PV.undef), ((5 : Nat), Go.Vc.PV.undef), (nat_lit 9, Go.Vc.PV.row nl (Go.Vc.BRow.bytes l) (0 : Nat)),
            (nat_lit 10, Go.Vc.PV.int Go.IntKind.i64 (Int.ofNat (List.length l))), (nat_lit 11, Go.Vc.PV.int Go.IntKind.i64 (0 : Int)),
            ((12 : Nat), Go.Vc.PV.undef), ((21 : Nat), Go.Vc.PV.undef)]
          [] =
        Go.Vc.VS.mk []
          [(nat_lit 0, Go.Vc.PV.row nl (Go.Vc.BRow.bytes l) (0 : Nat)), (nat_lit 2, Go.Vc.PV.str (ByteArray.mk #[]).data.toList),
            ((3 : Nat), Go.Vc.PV.row false (Go.Vc.BRow.bytes (List.replicate (Int.ofNat (List.length l)).toNat (0 : UInt8))) ((8 : Nat) + (32 : Nat))),
            ((4 : Nat), Go.Vc.PV.undef), ((5 : Nat), Go.Vc.PV.undef), (nat_lit 9, Go.Vc.PV.row nl (Go.Vc.BRow.bytes l) (0 : Nat)),
            (nat_lit 10, Go.Vc.PV.int Go.IntKind.i64 (Int.ofNat (List.length l))), ((11 : Nat), Go.Vc.PV.int Go.IntKind.i64 (0 : Int)),
            ((12 : Nat), Go.Vc.PV.undef), ((21 : Nat), Go.Vc.PV.undef)]
          [] ∧
      ((0 : Int) ≤ (0 : Int) ∧
          (0 : Int) ≤ ↑(List.length l) ∧
            false = false ∧
              List.replicate (Int.ofNat (List.length l)).toNat (0 : UInt8) =
                List.take (Int.toNat (0 : Int)) (Go.Proofs.YtojombahfmicbaaGreatDoor.lowB l) ++
                  List.replicate (List.length l - Int.toNat (0 : Int)) (0 : UInt8)) ∧
        ∀ (x : (Bool × Go.Vc.Bs) × Int),
          (0 : Int) ≤ x.snd ∧
              x.snd ≤ ↑(List.length l) ∧
                x.1.1 = false ∧
                  x.1.2 = List.take x.snd.toNat (Go.Proofs.YtojombahfmicbaaGreatDoor.lowB l) ++ List.replicate (List.length l - x.snd.toNat) (0 : UInt8) →
            (decide (x.snd < Int.ofNat (List.length l)) = true →
                Go.Vc.within x.snd (Int.ofNat (List.length l)) ∧
                  ((bif decide ((65 : Int) ≤ Go.Vc.byteZ l x.snd) then decide (Go.Vc.byteZ l x.snd ≤ (90 : Int)) else false) = true →
                      Go.Vc.within x.snd (Int.ofNat (List.length x.1.2)) ∧
                        ((0 : Int) ≤ Go.IntKind.u8.wrap (Go.Vc.byteZ l x.snd + (32 : Int)) ∧
                            Go.IntKind.u8.wrap (Go.Vc.byteZ l x.snd + (32 : Int)) ≤ (255 : Int)) ∧
                          Go.Vc.inI64 (x.snd + (1 : Int)) ∧
                            Go.Vc.VS.mk []
                                  [(nat_lit 0, Go.Vc.PV.row nl (Go.Vc.BRow.bytes l) (0 : Nat)), (nat_lit 2, Go.Vc.PV.str (ByteArray.mk #[]).data.toList),
                                    ((3 : Nat),
                                      Go.Vc.PV.row x.1.1
                                        (Go.Vc.BRow.bytes (Go.Vc.setZ x.1.2 x.snd (Go.Vc.zByte (Go.IntKind.u8.wrap (Go.Vc.byteZ l x.snd + (32 : Int))))))
                                        ((8 : Nat) + (32 : Nat))),
                                    ((4 : Nat), Go.Vc.PV.undef), ((5 : Nat), Go.Vc.PV.undef), (nat_lit 9, Go.Vc.PV.row nl (Go.Vc.BRow.bytes l) (0 : Nat)),
                                    (nat_lit 10, Go.Vc.PV.int Go.IntKind.i64 (Int.ofNat (List.length l))),
                                    ((11 : Nat), Go.Vc.PV.int Go.IntKind.i64 (x.snd + (1 : Int))), ((12 : Nat), Go.Vc.PV.undef), ((21 : Nat), Go.Vc.PV.undef)]
                                  [] =
                                Go.Vc.VS.mk []
                                  [(nat_lit 0, Go.Vc.PV.row nl (Go.Vc.BRow.bytes l) (0 : Nat)), (nat_lit 2, Go.Vc.PV.str (ByteArray.mk #[]).data.toList),
                                    ((3 : Nat),
                                      Go.Vc.PV.row x.1.1
                                        (Go.Vc.BRow.bytes (Go.Vc.setZ x.1.2 x.snd (Go.Vc.zByte (Go.IntKind.u8.wrap (Go.Vc.byteZ l x.snd + (32 : Int))))))
                                        ((8 : Nat) + (32 : Nat))),
                                    ((4 : Nat), Go.Vc.PV.undef), ((5 : Nat), Go.Vc.PV.undef), (nat_lit 9, Go.Vc.PV.row nl (Go.Vc.BRow.bytes l) (0 : Nat)),
                                    (nat_lit 10, Go.Vc.PV.int Go.IntKind.i64 (Int.ofNat (List.length l))),
                                    ((11 : Nat), Go.Vc.PV.int Go.IntKind.i64 (x.snd + (1 : Int))), ((12 : Nat), Go.Vc.PV.undef), ((21 : Nat), Go.Vc.PV.undef)]
                                  [] ∧
                              ((0 : Int) ≤ x.snd + (1 : Int) ∧
                                  x.snd + (1 : Int) ≤ ↑(List.length l) ∧
                                    x.1.1 = false ∧
                                      Go.Vc.setZ x.1.2 x.snd (Go.Vc.zByte (Go.IntKind.u8.wrap (Go.Vc.byteZ l x.snd + (32 : Int)))) =
                                        List.take (x.snd + (1 : Int)).toNat (Go.Proofs.YtojombahfmicbaaGreatDoor.lowB l) ++
                                          List.replicate (List.length l - (x.snd + (1 : Int)).toNat) (0 : UInt8)) ∧
                                (↑(List.length l) - (x.snd + (1 : Int))).toNat < (↑(List.length l) - x.snd).toNat) ∧
                    ((bif decide ((65 : Int) ≤ Go.Vc.byteZ l x.snd) then decide (Go.Vc.byteZ l x.snd ≤ (90 : Int)) else false) = false →
                      Go.Vc.within x.snd (Int.ofNat (List.length x.1.2)) ∧
                        ((0 : Int) ≤ Go.Vc.byteZ l x.snd ∧ Go.Vc.byteZ l x.snd ≤ (255 : Int)) ∧
                          Go.Vc.inI64 (x.snd + (1 : Int)) ∧
                            Go.Vc.VS.mk []
                                  [(nat_lit 0, Go.Vc.PV.row nl (Go.Vc.BRow.bytes l) (0 : Nat)), (nat_lit 2, Go.Vc.PV.str (ByteArray.mk #[]).data.toList),
                                    ((3 : Nat),
                                      Go.Vc.PV.row x.1.1 (Go.Vc.BRow.bytes (Go.Vc.setZ x.1.2 x.snd (Go.Vc.zByte (Go.Vc.byteZ l x.snd))))
                                        ((8 : Nat) + (32 : Nat))),
                                    ((4 : Nat), Go.Vc.PV.undef), ((5 : Nat), Go.Vc.PV.undef), (nat_lit 9, Go.Vc.PV.row nl (Go.Vc.BRow.bytes l) (0 : Nat)),
                                    (nat_lit 10, Go.Vc.PV.int Go.IntKind.i64 (Int.ofNat (List.length l))),
                                    ((11 : Nat), Go.Vc.PV.int Go.IntKind.i64 (x.snd + (1 : Int))), ((12 : Nat), Go.Vc.PV.undef), ((21 : Nat), Go.Vc.PV.undef)]
                                  [] =
                                Go.Vc.VS.mk []
                                  [(nat_lit 0, Go.Vc.PV.row nl (Go.Vc.BRow.bytes l) (0 : Nat)), (nat_lit 2, Go.Vc.PV.str (ByteArray.mk #[]).data.toList),
                                    ((3 : Nat),
                                      Go.Vc.PV.row x.1.1 (Go.Vc.BRow.bytes (Go.Vc.setZ x.1.2 x.snd (Go.Vc.zByte (Go.Vc.byteZ l x.snd))))
                                        ((8 : Nat) + (32 : Nat))),
                                    ((4 : Nat), Go.Vc.PV.undef), ((5 : Nat), Go.Vc.PV.undef), (nat_lit 9, Go.Vc.PV.row nl (Go.Vc.BRow.bytes l) (0 : Nat)),
                                    (nat_lit 10, Go.Vc.PV.int Go.IntKind.i64 (Int.ofNat (List.length l))),
                                    ((11 : Nat), Go.Vc.PV.int Go.IntKind.i64 (x.snd + (1 : Int))), ((12 : Nat), Go.Vc.PV.undef), ((21 : Nat), Go.Vc.PV.undef)]
                                  [] ∧
                              ((0 : Int) ≤ x.snd + (1 : Int) ∧
                                  x.snd + (1 : Int) ≤ ↑(List.length l) ∧
                                    x.1.1 = false ∧
                                      Go.Vc.setZ x.1.2 x.snd (Go.Vc.zByte (Go.Vc.byteZ l x.snd)) =
                                        List.take (x.snd + (1 : Int)).toNat (Go.Proofs.YtojombahfmicbaaGreatDoor.lowB l) ++
                                          List.replicate (List.length l - (x.snd + (1 : Int)).toNat) (0 : UInt8)) ∧
                                (↑(List.length l) - (x.snd + (1 : Int))).toNat < (↑(List.length l) - x.snd).toNat)) ∧
              (decide (x.snd < Int.ofNat (List.length l)) = false → k (Go.Vc.PV.str x.1.2))) := by kernel_rfl
theorem ok_lower (nl : Bool) (l : Bs) : FuncOk Tryz.prog noT 12 [.row nl (.bytes l) 0] ⟨l.length ≤ 1000000, .str (lowB l)⟩ := evF_ok (by kernel_rfl) X_lower_ok (H := H_lower nl l) (fuel := 1000) Tryz.func12 (by kernel_rfl) fun hpre => (vc_lower nl l _).mpr (by
  have hll : (lowB l).length = l.length := by unfold lowB; simp
  simp only [Int.ofNat_eq_natCast] at *
  refine ⟨⟨by omega, by omega, by unfold maxRow; omega⟩, trivial, ⟨by omega, by omega, trivial, by simp⟩, fun x hx => ⟨fun h => ?_, fun h => ?_⟩⟩
  · obtain ⟨h0, h1, h2, h3⟩ := hx
    have hlt := i64_lt h
    have hbr := byteZ_range l x.2
    have hlen : x.1.2.length = l.length := by rw [h3, List.length_append, List.length_take, List.length_replicate, hll]; omega
    have step : ∀ b, b = lowB1 (l.getD x.2.toNat 0) → setZ x.1.2 x.2 b = List.take (x.2 + 1).toNat (lowB l) ++ List.replicate (List.length l - (x.2 + 1).toNat) 0 := fun b hb => by
      unfold setZ
      rw [show (x.2 + 1).toNat = x.2.toNat + 1 by omega, h3]
      exact set_fill hll.symm (by rw [lowB_at h0 hlt, hb])
    refine ⟨⟨h0, hlt⟩, fun hc => ?_, fun hc => ?_⟩
    · obtain ⟨c1, c2, c3⟩ := low_yes hc
      rw [c1]
      refine ⟨⟨h0, by rw [hlen]; exact hlt⟩, ⟨by omega, by omega⟩, ⟨by omega, by omega⟩, trivial, ⟨by omega, by omega, h2, step _ c3⟩, by omega⟩
    · refine ⟨⟨h0, by rw [hlen]; exact hlt⟩, ⟨by omega, by omega⟩, ⟨by omega, by omega⟩, trivial, ⟨by omega, by omega, h2, step _ (low_no hc)⟩, by omega⟩
  · obtain ⟨h0, h1, h2, h3⟩ := hx
    have hge : ¬ x.2 < (l.length : Int) := of_decide_eq_false h
    show PV.str _ = PV.str _
    rw [h3, show x.2.toNat = l.length by omega, ← hll, List.take_length]
    simp)
def ent_lower : List PV → Option CallR := fun xs => match xs with
  | [.row nl (.bytes l) 0] => some ⟨l.length ≤ 1000000, .str (lowB l)⟩
  | _ => none
theorem ent_lower_ok : ∀ xs c, ent_lower xs = some c → FuncOk Tryz.prog noT 12 xs c := fun xs c h => by
  unfold ent_lower at h
  split at h
  · injection h with h; subst h; exact ok_lower _ _
  · cases h
end Go.Proofs.YtojombahfmicbaaGreatDoor

/- The function gossamer/gossamerref4.Lower does what is told of it. -/
namespace Go.Proofs.YtojombahfmicbaaGreatDoor
open Go Go.Proofs Go.RowKit Go.Vc

def X_rlower : Tbl := tblX []
def H_rlower (l : Bs) : Loops := fun i => bif Nat.beq i 3 then some ⟨(Bool × Bs) × (Int), (fun s x => ((((s.row s 3 x.1.1 (.bytes x.1.2)).put 4 (.int .i64 x.2)).put 10 .undef).put 24 .undef)), (fun s => ((s.nil 3, s.bytes 3), s.int 4)), (fun s x => let b := x.1; let i := x.2; 0 ≤ i ∧ i ≤ l.length ∧ b.1 = false ∧ b.2 = (lowB l).take i.toNat ++ l.drop i.toNat), (fun s x => let b := x.1; let i := x.2; ((l.length : Int) - i).toNat), [10, 24]⟩ else none
theorem X_rlower_ok : XOk Tryz.prog noT X_rlower := tblX_nil
theorem vc_rlower (l : Bs) (k : PV → Prop) : evF Tryz.prog X_rlower noT (H_rlower l) 1000 Tryz.f14 [.str l] k = (
  List.length l ≤ Go.Vc.maxLen ∧
    Go.Vc.VS.mk []
          [(nat_lit 0, Go.Vc.PV.str l), (nat_lit 2, Go.Vc.PV.str (ByteArray.mk #[]).data.toList),
            (nat_lit 3, Go.Vc.PV.row false (Go.Vc.BRow.bytes l) ((6 : Nat) + (32 : Nat))), (nat_lit 4, Go.Vc.PV.int Go.IntKind.i64 (0 : Int)),
            ((10 : Nat), Go.Vc.PV.undef), ((24 : Nat), Go.Vc.PV.undef)]
          [] =
        Go.Vc.VS.mk []
          [(nat_lit 0, Go.Vc.PV.str l), (nat_lit 2, Go.Vc.PV.str (ByteArray.mk #[]).data.toList),
            ((3 : Nat), Go.Vc.PV.row false (Go.Vc.BRow.bytes l) ((6 : Nat) + (32 : Nat))), ((4 : Nat), Go.Vc.PV.int Go.IntKind.i64 (0 : Int)),
            ((10 : Nat), Go.Vc.PV.undef), ((24 : Nat), Go.Vc.PV.undef)]
          [] ∧
      ((0 : Int) ≤ (0 : Int) ∧
          (0 : Int) ≤ ↑(List.length l) ∧
            false = false ∧ l = List.take (Int.toNat (0 : Int)) (Go.Proofs.YtojombahfmicbaaGreatDoor.lowB l) ++ List.drop (Int.toNat (0 : Int)) l) ∧
        ∀ (x : (Bool × Go.Vc.Bs) × Int),
          (0 : Int) ≤ x.snd ∧
              x.snd ≤ ↑(List.length l) ∧ x.1.1 = false ∧ x.1.2 = List.take x.snd.toNat (Go.Proofs.YtojombahfmicbaaGreatDoor.lowB l) ++ List.drop x.snd.toNat l →
            (decide (x.snd < Int.ofNat (List.length x.1.2)) = true →
                Go.Vc.within x.snd (Int.ofNat (List.length x.1.2)) ∧
                  (decide ((65 : Int) ≤ Go.Vc.byteZ x.1.2 x.snd) = true → Go.Vc.within x.snd (Int.ofNat (List.length x.1.2))) ∧
                    ((bif decide ((65 : Int) ≤ Go.Vc.byteZ x.1.2 x.snd) then decide (Go.Vc.byteZ x.1.2 x.snd ≤ (90 : Int)) else false) = true →
                        Go.Vc.within x.snd (Int.ofNat (List.length x.1.2)) ∧
                          Go.Vc.within x.snd (Int.ofNat (List.length x.1.2)) ∧
                            ((0 : Int) ≤ Go.IntKind.u8.wrap (Go.Vc.byteZ x.1.2 x.snd + (32 : Int)) ∧
                                Go.IntKind.u8.wrap (Go.Vc.byteZ x.1.2 x.snd + (32 : Int)) ≤ (255 : Int)) ∧
                              Go.Vc.inI64 (x.snd + (1 : Int)) ∧
                                Go.Vc.VS.mk []
                                      [(nat_lit 0, Go.Vc.PV.str l), (nat_lit 2, Go.Vc.PV.str (ByteArray.mk #[]).data.toList),
                                        ((3 : Nat),
                                          Go.Vc.PV.row x.1.1
                                            (Go.Vc.BRow.bytes (Go.Vc.setZ x.1.2 x.snd (Go.Vc.zByte (Go.IntKind.u8.wrap (Go.Vc.byteZ x.1.2 x.snd + (32 : Int))))))
                                            ((6 : Nat) + (32 : Nat))),
                                        ((4 : Nat), Go.Vc.PV.int Go.IntKind.i64 (x.snd + (1 : Int))), ((10 : Nat), Go.Vc.PV.undef), ((24 : Nat), Go.Vc.PV.undef)]
                                      [] =
                                    Go.Vc.VS.mk []
                                      [(nat_lit 0, Go.Vc.PV.str l), (nat_lit 2, Go.Vc.PV.str (ByteArray.mk #[]).data.toList),
                                        ((3 : Nat),
                                          Go.Vc.PV.row x.1.1
                                            (Go.Vc.BRow.bytes (Go.Vc.setZ x.1.2 x.snd (Go.Vc.zByte (Go.IntKind.u8.wrap (Go.Vc.byteZ x.1.2 x.snd + (32 : Int))))))
                                            ((6 : Nat) + (32 : Nat))),
                                        ((4 : Nat), Go.Vc.PV.int Go.IntKind.i64 (x.snd + (1 : Int))), ((10 : Nat), Go.Vc.PV.undef), ((24 : Nat), Go.Vc.PV.undef)]
                                      [] ∧
                                  ((0 : Int) ≤ x.snd + (1 : Int) ∧
                                      x.snd + (1 : Int) ≤ ↑(List.length l) ∧
                                        x.1.1 = false ∧
                                          Go.Vc.setZ x.1.2 x.snd (Go.Vc.zByte (Go.IntKind.u8.wrap (Go.Vc.byteZ x.1.2 x.snd + (32 : Int)))) =
                                            List.take (x.snd + (1 : Int)).toNat (Go.Proofs.YtojombahfmicbaaGreatDoor.lowB l) ++
                                              List.drop (x.snd + (1 : Int)).toNat l) ∧
                                    (↑(List.length l) - (x.snd + (1 : Int))).toNat < (↑(List.length l) - x.snd).toNat) ∧
                      ((bif decide ((65 : Int) ≤ Go.Vc.byteZ x.1.2 x.snd) then decide (Go.Vc.byteZ x.1.2 x.snd ≤ (90 : Int)) else false) = false →
                        Go.Vc.inI64 (x.snd + (1 : Int)) ∧
                          Go.Vc.VS.mk []
                                [(nat_lit 0, Go.Vc.PV.str l), (nat_lit 2, Go.Vc.PV.str (ByteArray.mk #[]).data.toList),
                                  ((3 : Nat), Go.Vc.PV.row x.1.1 (Go.Vc.BRow.bytes x.1.2) ((6 : Nat) + (32 : Nat))),
                                  ((4 : Nat), Go.Vc.PV.int Go.IntKind.i64 (x.snd + (1 : Int))), ((10 : Nat), Go.Vc.PV.undef), ((24 : Nat), Go.Vc.PV.undef)]
                                [] =
                              Go.Vc.VS.mk []
                                [(nat_lit 0, Go.Vc.PV.str l), (nat_lit 2, Go.Vc.PV.str (ByteArray.mk #[]).data.toList),
                                  ((3 : Nat), Go.Vc.PV.row x.1.1 (Go.Vc.BRow.bytes x.1.2) ((6 : Nat) + (32 : Nat))),
                                  ((4 : Nat), Go.Vc.PV.int Go.IntKind.i64 (x.snd + (1 : Int))), ((10 : Nat), Go.Vc.PV.undef), ((24 : Nat), Go.Vc.PV.undef)]
                                [] ∧
                            ((0 : Int) ≤ x.snd + (1 : Int) ∧
                                x.snd + (1 : Int) ≤ ↑(List.length l) ∧
                                  x.1.1 = false ∧
                                    x.1.2 =
                                      List.take (x.snd + (1 : Int)).toNat (Go.Proofs.YtojombahfmicbaaGreatDoor.lowB l) ++ List.drop (x.snd + (1 : Int)).toNat l) ∧
                              (↑(List.length l) - (x.snd + (1 : Int))).toNat < (↑(List.length l) - x.snd).toNat)) ∧
              (decide (x.snd < Int.ofNat (List.length x.1.2)) = false → k (Go.Vc.PV.str x.1.2))) := by kernel_rfl
theorem ok_rlower (l : Bs) : FuncOk Tryz.prog noT 14 [.str l] ⟨l.length ≤ 1000000, .str (lowB l)⟩ := evF_ok (by kernel_rfl) X_rlower_ok (H := H_rlower l) (fuel := 1000) Tryz.func14 (by kernel_rfl) fun hpre => (vc_rlower l _).mpr (by
  have hll : (lowB l).length = l.length := by unfold lowB; simp
  simp only [Int.ofNat_eq_natCast] at *
  refine ⟨by show l.length ≤ 1099511627776; omega, trivial, ⟨by omega, by omega, trivial, by simp⟩, fun x hx => ⟨fun h => ?_, fun h => ?_⟩⟩
  · obtain ⟨h0, h1, h2, h3⟩ := hx
    have hlen : x.1.2.length = l.length := by rw [h3, List.length_append, List.length_take, List.length_drop, hll]; omega
    have hlt := i64_lt h
    rw [hlen] at hlt
    have hbr := byteZ_range l x.2
    have hby : byteZ x.1.2 x.2 = byteZ l x.2 := by
      unfold byteZ
      congr 2
      rw [h3, List.getD_eq_getElem?_getD, List.getD_eq_getElem?_getD, List.getElem?_append_right (by rw [List.length_take, hll]; omega), List.length_take, hll, List.getElem?_drop]
      congr 2
      omega
    have hat : l.getD x.2.toNat 0 = l[x.2.toNat]'(by omega) := by rw [List.getD_eq_getElem?_getD, List.getElem?_eq_getElem (by omega)]; rfl
    have step : ∀ b, b = lowB1 (l.getD x.2.toNat 0) → setZ x.1.2 x.2 b = List.take (x.2 + 1).toNat (lowB l) ++ List.drop (x.2 + 1).toNat l := fun b hb => by
      unfold setZ
      rw [show (x.2 + 1).toNat = x.2.toNat + 1 by omega, h3]
      exact set_over_tail hll.symm (by rw [lowB_at h0 hlt, hb])
    rw [hby, hlen]
    refine ⟨⟨h0, hlt⟩, fun _ => ⟨h0, hlt⟩, fun hc => ?_, fun hc => ?_⟩
    · obtain ⟨c1, c2, c3⟩ := low_yes hc
      rw [c1]
      refine ⟨⟨h0, hlt⟩, ⟨h0, hlt⟩, ⟨by omega, by omega⟩, ⟨by omega, by omega⟩, trivial, ⟨by omega, by omega, h2, step _ c3⟩, by omega⟩
    · refine ⟨⟨by omega, by omega⟩, trivial, ⟨by omega, by omega, h2, ?_⟩, by omega⟩
      rw [← step _ (low_no hc), zByte_byteZ, hat]
      unfold setZ
      have e : x.1.2[x.2.toNat]? = some (l[x.2.toNat]'(by omega)) := by
        have := hby
        unfold byteZ at this
        have h5 : x.1.2.getD x.2.toNat 0 = l.getD x.2.toNat 0 := UInt8.toNat_inj.1 (by omega)
        rw [List.getD_eq_getElem?_getD, List.getElem?_eq_getElem (show x.2.toNat < x.1.2.length by omega), hat] at h5
        rw [List.getElem?_eq_getElem (show x.2.toNat < x.1.2.length by omega)]
        exact congrArg some h5
      obtain ⟨q1, q2⟩ := List.getElem?_eq_some_iff.1 e
      rw [← q2, List.set_getElem_self]
  · obtain ⟨h0, h1, h2, h3⟩ := hx
    have hlen : x.1.2.length = l.length := by rw [h3, List.length_append, List.length_take, List.length_drop, hll]; omega
    have hge : ¬ x.2 < (x.1.2.length : Int) := of_decide_eq_false h
    show PV.str _ = PV.str _
    rw [h3, show x.2.toNat = l.length by omega]
    rw [List.drop_length, List.append_nil, ← hll, List.take_length])
def ent_rlower : List PV → Option CallR := fun xs => match xs with
  | [.str l] => some ⟨l.length ≤ 1000000, .str (lowB l)⟩
  | _ => none
theorem ent_rlower_ok : ∀ xs c, ent_rlower xs = some c → FuncOk Tryz.prog noT 14 xs c := fun xs c h => by
  unfold ent_rlower at h
  split at h
  · injection h with h; subst h; exact ok_rlower _
  · cases h
end Go.Proofs.YtojombahfmicbaaGreatDoor

/- The function gossamer/url.Special does what is told of it. -/
namespace Go.Proofs.YtojombahfmicbaaGreatDoor
open Go Go.Proofs Go.RowKit Go.Vc

def fF : Bs := [102, 116, 112]
def fL : Bs := [102, 105, 108, 101]
def fH : Bs := [104, 116, 116, 112]
def fW : Bs := [119, 115]
def fS : Bs := [104, 116, 116, 112, 115]
def fV : Bs := [119, 115, 115]
def spZ (l : Bs) : Int := if l = fF then 21 else if l = fH ∨ l = fW then 80 else if l = fS ∨ l = fV then 443 else 0
def spB (l : Bs) : Bool := decide (l = fF ∨ l = fL ∨ l = fH ∨ l = fW ∨ l = fS ∨ l = fV)

def X_special : Tbl := tblX []
def H_special (l : Bs) : Loops := fun i => none
theorem X_special_ok : XOk Tryz.prog noT X_special := tblX_nil
theorem vc_special (l : Bs) (k : PV → Prop) : evF Tryz.prog X_special noT (H_special l) 1000 Tryz.f7 [.str l] k = (
  (decide (l = (ByteArray.mk #[(102 : UInt8), (116 : UInt8), (112 : UInt8)]).data.toList) = true →
      k (Go.Vc.PV.tup [Go.Vc.PV.int Go.IntKind.i64 (21 : Int), Go.Vc.PV.bool true])) ∧
    (decide (l = (ByteArray.mk #[(102 : UInt8), (116 : UInt8), (112 : UInt8)]).data.toList) = false →
      (decide (l = (ByteArray.mk #[(102 : UInt8), (105 : UInt8), (108 : UInt8), (101 : UInt8)]).data.toList) = true →
          k (Go.Vc.PV.tup [Go.Vc.PV.int Go.IntKind.i64 (0 : Int), Go.Vc.PV.bool true])) ∧
        (decide (l = (ByteArray.mk #[(102 : UInt8), (105 : UInt8), (108 : UInt8), (101 : UInt8)]).data.toList) = false →
          (decide (l = (ByteArray.mk #[(104 : UInt8), (116 : UInt8), (116 : UInt8), (112 : UInt8)]).data.toList) = true →
              (decide (l = (ByteArray.mk #[(104 : UInt8), (116 : UInt8), (116 : UInt8), (112 : UInt8)]).data.toList) = true →
                  k (Go.Vc.PV.tup [Go.Vc.PV.int Go.IntKind.i64 (80 : Int), Go.Vc.PV.bool true])) ∧
                (decide (l = (ByteArray.mk #[(104 : UInt8), (116 : UInt8), (116 : UInt8), (112 : UInt8)]).data.toList) = false →
                  (decide (l = (ByteArray.mk #[(104 : UInt8), (116 : UInt8), (116 : UInt8), (112 : UInt8), (115 : UInt8)]).data.toList) = true →
                      (decide (l = (ByteArray.mk #[(104 : UInt8), (116 : UInt8), (116 : UInt8), (112 : UInt8), (115 : UInt8)]).data.toList) = true →
                          k (Go.Vc.PV.tup [Go.Vc.PV.int Go.IntKind.i64 (443 : Int), Go.Vc.PV.bool true])) ∧
                        (decide (l = (ByteArray.mk #[(104 : UInt8), (116 : UInt8), (116 : UInt8), (112 : UInt8), (115 : UInt8)]).data.toList) = false →
                          k (Go.Vc.PV.tup [Go.Vc.PV.int Go.IntKind.i64 (0 : Int), Go.Vc.PV.bool false]))) ∧
                    (decide (l = (ByteArray.mk #[(104 : UInt8), (116 : UInt8), (116 : UInt8), (112 : UInt8), (115 : UInt8)]).data.toList) = false →
                      (decide (l = (ByteArray.mk #[(119 : UInt8), (115 : UInt8), (115 : UInt8)]).data.toList) = true →
                          k (Go.Vc.PV.tup [Go.Vc.PV.int Go.IntKind.i64 (443 : Int), Go.Vc.PV.bool true])) ∧
                        (decide (l = (ByteArray.mk #[(119 : UInt8), (115 : UInt8), (115 : UInt8)]).data.toList) = false →
                          k (Go.Vc.PV.tup [Go.Vc.PV.int Go.IntKind.i64 (0 : Int), Go.Vc.PV.bool false]))))) ∧
            (decide (l = (ByteArray.mk #[(104 : UInt8), (116 : UInt8), (116 : UInt8), (112 : UInt8)]).data.toList) = false →
              (decide (l = (ByteArray.mk #[(119 : UInt8), (115 : UInt8)]).data.toList) = true →
                  k (Go.Vc.PV.tup [Go.Vc.PV.int Go.IntKind.i64 (80 : Int), Go.Vc.PV.bool true])) ∧
                (decide (l = (ByteArray.mk #[(119 : UInt8), (115 : UInt8)]).data.toList) = false →
                  (decide (l = (ByteArray.mk #[(104 : UInt8), (116 : UInt8), (116 : UInt8), (112 : UInt8), (115 : UInt8)]).data.toList) = true →
                      (decide (l = (ByteArray.mk #[(104 : UInt8), (116 : UInt8), (116 : UInt8), (112 : UInt8), (115 : UInt8)]).data.toList) = true →
                          k (Go.Vc.PV.tup [Go.Vc.PV.int Go.IntKind.i64 (443 : Int), Go.Vc.PV.bool true])) ∧
                        (decide (l = (ByteArray.mk #[(104 : UInt8), (116 : UInt8), (116 : UInt8), (112 : UInt8), (115 : UInt8)]).data.toList) = false →
                          k (Go.Vc.PV.tup [Go.Vc.PV.int Go.IntKind.i64 (0 : Int), Go.Vc.PV.bool false]))) ∧
                    (decide (l = (ByteArray.mk #[(104 : UInt8), (116 : UInt8), (116 : UInt8), (112 : UInt8), (115 : UInt8)]).data.toList) = false →
                      (decide (l = (ByteArray.mk #[(119 : UInt8), (115 : UInt8), (115 : UInt8)]).data.toList) = true →
                          k (Go.Vc.PV.tup [Go.Vc.PV.int Go.IntKind.i64 (443 : Int), Go.Vc.PV.bool true])) ∧
                        (decide (l = (ByteArray.mk #[(119 : UInt8), (115 : UInt8), (115 : UInt8)]).data.toList) = false →
                          k (Go.Vc.PV.tup [Go.Vc.PV.int Go.IntKind.i64 (0 : Int), Go.Vc.PV.bool false])))))))) := by kernel_rfl
theorem ok_special (l : Bs) : FuncOk Tryz.prog noT 7 [.str l] ⟨True, .tup [.int .i64 (spZ l), .bool (spB l)]⟩ := evF_ok (by kernel_rfl) X_special_ok (H := H_special l) (fuel := 1000) Tryz.func7 (by kernel_rfl) fun hpre => (vc_special l _).mpr (by
  have leaf : ∀ (a b : Int) (c d : Bool), a = b → c = d → PV.tup [.int .i64 a, .bool c] = PV.tup [.int .i64 b, .bool d] := fun a b c d h1 h2 => by rw [h1, h2]
  simp only [decide_eq_true_eq, decide_eq_false_iff_not]
  repeat' (first | constructor | intro h)
  all_goals first
    | (subst_vars; contradiction)
    | (refine leaf _ _ _ _ ?_ ?_ <;> simp_all [spZ, spB, fF, fL, fH, fW, fS, fV]))
def ent_special : List PV → Option CallR := fun xs => match xs with
  | [.str l] => some ⟨True, .tup [.int .i64 (spZ l), .bool (spB l)]⟩
  | _ => none
theorem ent_special_ok : ∀ xs c, ent_special xs = some c → FuncOk Tryz.prog noT 7 xs c := fun xs c h => by
  unfold ent_special at h
  split at h
  · injection h with h; subst h; exact ok_special _
  · cases h
end Go.Proofs.YtojombahfmicbaaGreatDoor

/- The function gossamer/gossamerref12.Special does what is told of it. -/
namespace Go.Proofs.YtojombahfmicbaaGreatDoor
open Go Go.Proofs Go.RowKit Go.Vc

def X_rspecial : Tbl := tblX []
def H_rspecial (l : Bs) : Loops := fun i => none
theorem X_rspecial_ok : XOk Tryz.prog noT X_rspecial := tblX_nil
theorem vc_rspecial (l : Bs) (k : PV → Prop) : evF Tryz.prog X_rspecial noT (H_rspecial l) 1000 Tryz.f8 [.str l] k = (
  (decide (l = (ByteArray.mk #[(102 : UInt8), (116 : UInt8), (112 : UInt8)]).data.toList) = true →
      k (Go.Vc.PV.tup [Go.Vc.PV.int Go.IntKind.i64 (21 : Int), Go.Vc.PV.bool true])) ∧
    (decide (l = (ByteArray.mk #[(102 : UInt8), (116 : UInt8), (112 : UInt8)]).data.toList) = false →
      (decide (l = (ByteArray.mk #[(102 : UInt8), (105 : UInt8), (108 : UInt8), (101 : UInt8)]).data.toList) = true →
          k (Go.Vc.PV.tup [Go.Vc.PV.int Go.IntKind.i64 (0 : Int), Go.Vc.PV.bool true])) ∧
        (decide (l = (ByteArray.mk #[(102 : UInt8), (105 : UInt8), (108 : UInt8), (101 : UInt8)]).data.toList) = false →
          (decide (l = (ByteArray.mk #[(104 : UInt8), (116 : UInt8), (116 : UInt8), (112 : UInt8)]).data.toList) = true →
              (decide (l = (ByteArray.mk #[(104 : UInt8), (116 : UInt8), (116 : UInt8), (112 : UInt8)]).data.toList) = true →
                  k (Go.Vc.PV.tup [Go.Vc.PV.int Go.IntKind.i64 (80 : Int), Go.Vc.PV.bool true])) ∧
                (decide (l = (ByteArray.mk #[(104 : UInt8), (116 : UInt8), (116 : UInt8), (112 : UInt8)]).data.toList) = false →
                  (decide (l = (ByteArray.mk #[(104 : UInt8), (116 : UInt8), (116 : UInt8), (112 : UInt8), (115 : UInt8)]).data.toList) = true →
                      (decide (l = (ByteArray.mk #[(104 : UInt8), (116 : UInt8), (116 : UInt8), (112 : UInt8), (115 : UInt8)]).data.toList) = true →
                          k (Go.Vc.PV.tup [Go.Vc.PV.int Go.IntKind.i64 (443 : Int), Go.Vc.PV.bool true])) ∧
                        (decide (l = (ByteArray.mk #[(104 : UInt8), (116 : UInt8), (116 : UInt8), (112 : UInt8), (115 : UInt8)]).data.toList) = false →
                          k (Go.Vc.PV.tup [Go.Vc.PV.int Go.IntKind.i64 (0 : Int), Go.Vc.PV.bool false]))) ∧
                    (decide (l = (ByteArray.mk #[(104 : UInt8), (116 : UInt8), (116 : UInt8), (112 : UInt8), (115 : UInt8)]).data.toList) = false →
                      (decide (l = (ByteArray.mk #[(119 : UInt8), (115 : UInt8), (115 : UInt8)]).data.toList) = true →
                          k (Go.Vc.PV.tup [Go.Vc.PV.int Go.IntKind.i64 (443 : Int), Go.Vc.PV.bool true])) ∧
                        (decide (l = (ByteArray.mk #[(119 : UInt8), (115 : UInt8), (115 : UInt8)]).data.toList) = false →
                          k (Go.Vc.PV.tup [Go.Vc.PV.int Go.IntKind.i64 (0 : Int), Go.Vc.PV.bool false]))))) ∧
            (decide (l = (ByteArray.mk #[(104 : UInt8), (116 : UInt8), (116 : UInt8), (112 : UInt8)]).data.toList) = false →
              (decide (l = (ByteArray.mk #[(119 : UInt8), (115 : UInt8)]).data.toList) = true →
                  k (Go.Vc.PV.tup [Go.Vc.PV.int Go.IntKind.i64 (80 : Int), Go.Vc.PV.bool true])) ∧
                (decide (l = (ByteArray.mk #[(119 : UInt8), (115 : UInt8)]).data.toList) = false →
                  (decide (l = (ByteArray.mk #[(104 : UInt8), (116 : UInt8), (116 : UInt8), (112 : UInt8), (115 : UInt8)]).data.toList) = true →
                      (decide (l = (ByteArray.mk #[(104 : UInt8), (116 : UInt8), (116 : UInt8), (112 : UInt8), (115 : UInt8)]).data.toList) = true →
                          k (Go.Vc.PV.tup [Go.Vc.PV.int Go.IntKind.i64 (443 : Int), Go.Vc.PV.bool true])) ∧
                        (decide (l = (ByteArray.mk #[(104 : UInt8), (116 : UInt8), (116 : UInt8), (112 : UInt8), (115 : UInt8)]).data.toList) = false →
                          k (Go.Vc.PV.tup [Go.Vc.PV.int Go.IntKind.i64 (0 : Int), Go.Vc.PV.bool false]))) ∧
                    (decide (l = (ByteArray.mk #[(104 : UInt8), (116 : UInt8), (116 : UInt8), (112 : UInt8), (115 : UInt8)]).data.toList) = false →
                      (decide (l = (ByteArray.mk #[(119 : UInt8), (115 : UInt8), (115 : UInt8)]).data.toList) = true →
                          k (Go.Vc.PV.tup [Go.Vc.PV.int Go.IntKind.i64 (443 : Int), Go.Vc.PV.bool true])) ∧
                        (decide (l = (ByteArray.mk #[(119 : UInt8), (115 : UInt8), (115 : UInt8)]).data.toList) = false →
                          k (Go.Vc.PV.tup [Go.Vc.PV.int Go.IntKind.i64 (0 : Int), Go.Vc.PV.bool false])))))))) := by kernel_rfl
theorem ok_rspecial (l : Bs) : FuncOk Tryz.prog noT 8 [.str l] ⟨True, .tup [.int .i64 (spZ l), .bool (spB l)]⟩ := evF_ok (by kernel_rfl) X_rspecial_ok (H := H_rspecial l) (fuel := 1000) Tryz.func8 (by kernel_rfl) fun hpre => (vc_rspecial l _).mpr (by
  have leaf : ∀ (a b : Int) (c d : Bool), a = b → c = d → PV.tup [.int .i64 a, .bool c] = PV.tup [.int .i64 b, .bool d] := fun a b c d h1 h2 => by rw [h1, h2]
  simp only [decide_eq_true_eq, decide_eq_false_iff_not]
  repeat' (first | constructor | intro h)
  all_goals first
    | (subst_vars; contradiction)
    | (refine leaf _ _ _ _ ?_ ?_ <;> simp_all [spZ, spB, fF, fL, fH, fW, fS, fV]))
def ent_rspecial : List PV → Option CallR := fun xs => match xs with
  | [.str l] => some ⟨True, .tup [.int .i64 (spZ l), .bool (spB l)]⟩
  | _ => none
theorem ent_rspecial_ok : ∀ xs c, ent_rspecial xs = some c → FuncOk Tryz.prog noT 8 xs c := fun xs c h => by
  unfold ent_rspecial at h
  split at h
  · injection h with h; subst h; exact ok_rspecial _
  · cases h
end Go.Proofs.YtojombahfmicbaaGreatDoor

/- The function gossamer/url.Scheme does what is told of it. -/
namespace Go.Proofs.YtojombahfmicbaaGreatDoor
open Go Go.Proofs Go.RowKit Go.Vc

def letC (c : UInt8) : Bool := decide ((97 ≤ c.toNat ∧ c.toNat ≤ 122) ∨ (65 ≤ c.toNat ∧ c.toNat ≤ 90))
def digC (c : UInt8) : Bool := decide (48 ≤ c.toNat ∧ c.toNat ≤ 57)
theorem letC_iff (c : UInt8) : letC c = true ↔ ((97 ≤ c.toNat ∧ c.toNat ≤ 122) ∨ (65 ≤ c.toNat ∧ c.toNat ≤ 90)) := by unfold letC; exact decide_eq_true_iff
theorem digC_iff (c : UInt8) : digC c = true ↔ (48 ≤ c.toNat ∧ c.toNat ≤ 57) := by unfold digC; exact decide_eq_true_iff
theorem andB (a b : Bool) : (bif a then b else false) = (a && b) := by cases a <;> rfl
theorem orB (a b : Bool) : (bif a then true else b) = (a || b) := by cases a <;> rfl
def schm (l : Bs) : Bs → Nat → Bs × Bs × Bool
  | [], _ => ([], [], false)
  | c :: r, i => if letC c = true then schm l r (i + 1) else if i = 0 then ([], [], false) else if c.toNat = 58 then (lowB (l.take i), l.drop (i + 1), true) else if c.toNat = 43 ∨ c.toNat = 45 ∨ c.toNat = 46 ∨ digC c = true then schm l r (i + 1) else ([], [], false)

def X_scheme : Tbl := tblX [(11, ent_letter), (12, ent_lower), (13, ent_digit)]
def H_scheme (l : Bs) : Loops := fun i => bif Nat.beq i 2 then some ⟨(Int), (fun s x => ((((((((s.put 9 (.int .i64 x)).put 5 .undef).put 6 .undef).put 10 .undef).put 15 .undef).put 18 .undef).put 21 .undef).put 33 .undef)), (fun s => s.int 9), (fun s x => let i := x; 0 ≤ i ∧ i ≤ l.length ∧ schm l (l.drop i.toNat) i.toNat = schm l l 0), (fun s x => let i := x; ((l.length : Int) - i).toNat), [5, 6, 10, 15, 18, 21, 33]⟩ else none
theorem X_scheme_ok : XOk Tryz.prog noT X_scheme := tblX_cons ent_letter_ok (tblX_cons ent_lower_ok (tblX_cons ent_digit_ok (tblX_nil)))
theorem vc_scheme (l : Bs) (k : PV → Prop) : evF Tryz.prog X_scheme noT (H_scheme l) 1000 Tryz.f5 [.str l] k = (
  Go.Vc.VS.mk []
        [(nat_lit 0, Go.Vc.PV.str l), (nat_lit 2, Go.Vc.PV.str (ByteArray.mk #[]).data.toList), (nat_lit 3, Go.Vc.PV.str (ByteArray.mk #[]).data.toList),
          (nat_lit 4, Go.Vc.PV.bool false), ((5 : Nat), Go.Vc.PV.undef), ((6 : Nat), Go.Vc.PV.undef), (nat_lit 8, Go.Vc.PV.int Go.IntKind.i64 (Go.Vc.lenZ l)),
          (nat_lit 9, Go.Vc.PV.int Go.IntKind.i64 (0 : Int)), ((10 : Nat), Go.Vc.PV.undef), ((15 : Nat), Go.Vc.PV.undef), ((18 : Nat), Go.Vc.PV.undef),
          ((21 : Nat), Go.Vc.PV.undef), ((33 : Nat), Go.Vc.PV.undef)]
        [] =
      Go.Vc.VS.mk []
        [(nat_lit 0, Go.Vc.PV.str l), (nat_lit 2, Go.Vc.PV.str (ByteArray.mk #[]).data.toList), (nat_lit 3, Go.Vc.PV.str (ByteArray.mk #[]).data.toList),
          (nat_lit 4, Go.Vc.PV.bool false), ((5 : Nat), Go.Vc.PV.undef), ((6 : Nat), Go.Vc.PV.undef), (nat_lit 8, Go.Vc.PV.int Go.IntKind.i64 (Go.Vc.lenZ l)),
          ((9 : Nat), Go.Vc.PV.int Go.IntKind.i64 (0 : Int)), ((10 : Nat), Go.Vc.PV.undef), ((15 : Nat), Go.Vc.PV.undef), ((18 : Nat), Go.Vc.PV.undef),
          ((21 : Nat), Go.Vc.PV.undef), ((33 : Nat), Go.Vc.PV.undef)]
        [] ∧
    ((0 : Int) ≤ (0 : Int) ∧
        (0 : Int) ≤ ↑(List.length l) ∧
          Go.Proofs.YtojombahfmicbaaGreatDoor.schm l (List.drop (Int.toNat (0 : Int)) l) (Int.toNat (0 : Int)) =
            Go.Proofs.YtojombahfmicbaaGreatDoor.schm l l (0 : Nat)) ∧
      ∀ (x : Int),
        (0 : Int) ≤ x ∧
            x ≤ ↑(List.length l) ∧
              Go.Proofs.YtojombahfmicbaaGreatDoor.schm l (List.drop x.toNat l) x.toNat = Go.Proofs.YtojombahfmicbaaGreatDoor.schm l l (0 : Nat) →
          (decide (x < Go.Vc.lenZ l) = true →
              Go.Vc.within x (Go.Vc.lenZ l) ∧
                ((0 : Int) ≤ Go.Vc.byteZ l x ∧ Go.Vc.byteZ l x ≤ (255 : Int)) ∧
                  (decide ((97 : Int) ≤ Go.Vc.byteZ l x ∧ Go.Vc.byteZ l x ≤ (122 : Int) ∨ (65 : Int) ≤ Go.Vc.byteZ l x ∧ Go.Vc.byteZ l x ≤ (90 : Int)) = true →
                      Go.Vc.inI64 (x + (1 : Int)) ∧
                        Go.Vc.VS.mk []
                              [(nat_lit 0, Go.Vc.PV.str l), (nat_lit 2, Go.Vc.PV.str (ByteArray.mk #[]).data.toList),
                                (nat_lit 3, Go.Vc.PV.str (ByteArray.mk #[]).data.toList), (nat_lit 4, Go.Vc.PV.bool false), ((5 : Nat), Go.Vc.PV.undef),
                                ((6 : Nat), Go.Vc.PV.undef), (nat_lit 8, Go.Vc.PV.int Go.IntKind.i64 (Go.Vc.lenZ l)),
                                ((9 : Nat), Go.Vc.PV.int Go.IntKind.i64 (x + (1 : Int))), ((10 : Nat), Go.Vc.PV.undef), ((15 : Nat), Go.Vc.PV.undef),
                                ((18 : Nat), Go.Vc.PV.undef), ((21 : Nat), Go.Vc.PV.undef), ((33 : Nat), Go.Vc.PV.undef)]
                              [] =
                            Go.Vc.VS.mk []
                              [(nat_lit 0, Go.Vc.PV.str l), (nat_lit 2, Go.Vc.PV.str (ByteArray.mk #[]).data.toList),
                                (nat_lit 3, Go.Vc.PV.str (ByteArray.mk #[]).data.toList), (nat_lit 4, Go.Vc.PV.bool false), ((5 : Nat), Go.Vc.PV.undef),
                                ((6 : Nat), Go.Vc.PV.undef), (nat_lit 8, Go.Vc.PV.int Go.IntKind.i64 (Go.Vc.lenZ l)),
                                ((9 : Nat), Go.Vc.PV.int Go.IntKind.i64 (x + (1 : Int))), ((10 : Nat), Go.Vc.PV.undef), ((15 : Nat), Go.Vc.PV.undef),
                                ((18 : Nat), Go.Vc.PV.undef), ((21 : Nat), Go.Vc.PV.undef), ((33 : Nat), Go.Vc.PV.undef)]
                              [] ∧
                          ((0 : Int) ≤ x + (1 : Int) ∧
                              x + (1 : Int) ≤ ↑(List.length l) ∧
                                Go.Proofs.YtojombahfmicbaaGreatDoor.schm l (List.drop (x + (1 : Int)).toNat l) (x + (1 : Int)).toNat =
                                  Go.Proofs.YtojombahfmicbaaGreatDoor.schm l l (0 : Nat)) ∧
                            (↑(List.length l) - (x + (1 : Int))).toNat < (↑(List.length l) - x).toNat) ∧
                    (decide ((97 : Int) ≤ Go.Vc.byteZ l x ∧ Go.Vc.byteZ l x ≤ (122 : Int) ∨ (65 : Int) ≤ Go.Vc.byteZ l x ∧ Go.Vc.byteZ l x ≤ (90 : Int)) = false →
                      (decide (x = (0 : Int)) = true →
                          k (Go.Vc.PV.tup [Go.Vc.PV.str (ByteArray.mk #[]).data.toList, Go.Vc.PV.str (ByteArray.mk #[]).data.toList, Go.Vc.PV.bool false])) ∧
                        (decide (x = (0 : Int)) = false →
                          (decide (Go.Vc.byteZ l x = (58 : Int)) = true →
                              Go.Vc.upto (0 : Int) x (Go.Vc.lenZ l) ∧
                                (Go.Vc.takeZ l x).length ≤ Go.Vc.maxLen ∧
                                  (Go.Vc.takeZ l x).length.le (1000000 : Nat) ∧
                                    Go.Vc.inI64 (x + (1 : Int)) ∧
                                      Go.Vc.upto (x + (1 : Int)) (Go.Vc.lenZ l) (Go.Vc.lenZ l) ∧
                                        k
                                          (Go.Vc.PV.tup
                                            [Go.Vc.PV.str (Go.Proofs.YtojombahfmicbaaGreatDoor.lowB (Go.Vc.takeZ l x)),
                                              Go.Vc.PV.str (Go.Vc.dropZ l (x + (1 : Int))), Go.Vc.PV.bool true])) ∧
                            (decide (Go.Vc.byteZ l x = (58 : Int)) = false →
                              ((bif bif !decide (Go.Vc.byteZ l x = (43 : Int)) then !decide (Go.Vc.byteZ l x = (45 : Int)) else false then
                                      !decide (Go.Vc.byteZ l x = (46 : Int))
                                    else false) =
                                    true →
                                  True) ∧
                                ((bif
                                          bif bif !decide (Go.Vc.byteZ l x = (43 : Int)) then !decide (Go.Vc.byteZ l x = (45 : Int)) else false then
                                            !decide (Go.Vc.byteZ l x = (46 : Int))
                                          else false then
                                        !decide ((48 : Int) ≤ Go.Vc.byteZ l x ∧ Go.Vc.byteZ l x ≤ (57 : Int))
                                      else false) =
                                      true →
                                    k
                                      (Go.Vc.PV.tup
                                        [Go.Vc.PV.str (ByteArray.mk #[]).data.toList, Go.Vc.PV.str (ByteArray.mk #[]).data.toList, Go.Vc.PV.bool false])) ∧
                                  ((bif
                                          bif bif !decide (Go.Vc.byteZ l x = (43 : Int)) then !decide (Go.Vc.byteZ l x = (45 : Int)) else false then
                                            !decide (Go.Vc.byteZ l x = (46 : Int))
                                          else false then
                                        !decide ((48 : Int) ≤ Go.Vc.byteZ l x ∧ Go.Vc.byteZ l x ≤ (57 : Int))
                                      else false) =
                                      false →
                                    Go.Vc.inI64 (x + (1 : Int)) ∧
                                      Go.Vc.VS.mk []
                                            [(nat_lit 0, Go.Vc.PV.str l), (nat_lit 2, Go.Vc.PV.str (ByteArray.mk #[]).data.toList),
                                              (nat_lit 3, Go.Vc.PV.str (ByteArray.mk #[]).data.toList), (nat_lit 4, Go.Vc.PV.bool false),
                                              ((5 : Nat), Go.Vc.PV.undef), ((6 : Nat), Go.Vc.PV.undef), (nat_lit 8, Go.Vc.PV.int Go.IntKind.i64 (Go.Vc.lenZ l)),
                                              ((9 : Nat), Go.Vc.PV.int Go.IntKind.i64 (x + (1 : Int))), ((10 : Nat), Go.Vc.PV.undef),
                                              ((15 : Nat), Go.Vc.PV.undef), ((18 : Nat), Go.Vc.PV.undef), ((21 : Nat), Go.Vc.PV.undef),
                                              ((33 : Nat), Go.Vc.PV.undef)]
                                            [] =
                                          Go.Vc.VS.mk []
                                            [(nat_lit 0, Go.Vc.PV.str l), (nat_lit 2, Go.Vc.PV.str (ByteArray.mk #[]).data.toList),
                                              (nat_lit 3, Go.Vc.PV.str (ByteArray.mk #[]).data.toList), (nat_lit 4, Go.Vc.PV.bool false),
                                              ((5 : Nat), Go.Vc.PV.undef), ((6 : Nat), Go.Vc.PV.undef), (nat_lit 8, Go.Vc.PV.int Go.IntKind.i64 (Go.Vc.lenZ l)),
                                              ((9 : Nat), Go.Vc.PV.int Go.IntKind.i64 (x + (1 : Int))), ((10 : Nat), Go.Vc.PV.undef),
                                              ((15 : Nat), Go.Vc.PV.undef), ((18 : Nat), Go.Vc.PV.undef), ((21 : Nat), Go.Vc.PV.undef),
                                              ((33 : Nat), Go.Vc.PV.undef)]
                                            [] ∧
                                        ((0 : Int) ≤ x + (1 : Int) ∧
                                            x + (1 : Int) ≤ ↑(List.length l) ∧
                                              Go.Proofs.YtojombahfmicbaaGreatDoor.schm l (List.drop (x + (1 : Int)).toNat l) (x + (1 : Int)).toNat =
                                                Go.Proofs.YtojombahfmicbaaGreatDoor.schm l l (0 : Nat)) ∧
                                          (↑(List.length l) - (x + (1 : Int))).toNat < (↑(List.length l) - x).toNat))))) ∧
            (decide (x < Go.Vc.lenZ l) = false →
              k (Go.Vc.PV.tup [Go.Vc.PV.str (ByteArray.mk #[]).data.toList, Go.Vc.PV.str (ByteArray.mk #[]).data.toList, Go.Vc.PV.bool false]))) := by kernel_rfl
theorem ok_scheme (l : Bs) : FuncOk Tryz.prog noT 5 [.str l] ⟨l.length ≤ 60, .tup [.str (schm l l 0).1, .str (schm l l 0).2.1, .bool (schm l l 0).2.2]⟩ := evF_ok (by kernel_rfl) X_scheme_ok (H := H_scheme l) (fuel := 1000) Tryz.func5 (by kernel_rfl) fun hpre => (vc_scheme l _).mpr (by
  refine ⟨rfl, ⟨by omega, by omega, rfl⟩, fun x hx => ⟨fun h => ?_, fun h => ?_⟩⟩
  · obtain ⟨h0, h1, h2⟩ := hx
    have hlt : x < (l.length : Int) := of_decide_eq_true h
    obtain ⟨c, hc⟩ : ∃ c, c = l.getD x.toNat 0 := ⟨_, rfl⟩
    have hby : byteZ l x = (c.toNat : Int) := by rw [hc]; rfl
    have hd : l.drop x.toNat = c :: l.drop (x.toNat + 1) := by
      rw [List.drop_eq_getElem_cons (by omega), hc, List.getD_eq_getElem?_getD, List.getElem?_eq_getElem (by omega)]
      rfl
    have hs : (x + 1).toNat = x.toNat + 1 := by omega
    have hcr := c.toNat_lt
    rw [hd, schm] at h2
    rw [hs, hby]
    refine ⟨⟨h0, hlt⟩, ⟨by omega, by omega⟩, fun hl => ?_, fun hl => ?_⟩
    · have e : letC c = true := decide_eq_true (by have := of_decide_eq_true hl; omega)
      rw [if_pos e] at h2
      exact ⟨⟨by omega, by omega⟩, rfl, ⟨by omega, by omega, h2⟩, by omega⟩
    · have e : ¬ letC c = true := fun e => by
        have h3 := of_decide_eq_true e
        have h4 := of_decide_eq_false hl
        omega
      rw [if_neg e] at h2
      refine ⟨fun h3 => ?_, fun h3 => ⟨fun h4 => ?_, fun h4 => ⟨fun _ => trivial, fun h5 => ?_, fun h5 => ?_⟩⟩⟩
      · have := of_decide_eq_true h3
        rw [if_pos (by omega)] at h2
        show PV.tup _ = PV.tup _
        rw [← h2]
        try rfl
      · have g3 := of_decide_eq_false h3
        have g4 := of_decide_eq_true h4
        rw [if_neg (by omega), if_pos (by omega)] at h2
        have hl1 : (takeZ l x).length ≤ 60 := by unfold takeZ; rw [List.length_take]; omega
        refine ⟨⟨by omega, h0, h1⟩, Nat.le_trans hl1 (by decide), Nat.le_trans hl1 (by decide), ⟨by omega, by omega⟩, ⟨by omega, by unfold lenZ; omega, Int.le_refl _⟩, ?_⟩
        show PV.tup _ = PV.tup _
        rw [← h2]
        unfold takeZ dropZ
        rw [hs]
      · have g3 := of_decide_eq_false h3
        have g4 := of_decide_eq_false h4
        rw [if_neg (by omega), if_neg (by omega), if_neg] at h2
        · show PV.tup _ = PV.tup _
          rw [← h2]
          try rfl
        · intro hh
          have : digC c = true ↔ (48 ≤ c.toNat ∧ c.toNat ≤ 57) := by unfold digC; exact decide_eq_true_iff
          rw [this] at hh
          revert h5
          rcases hh with hh | hh | hh | ⟨q1, q2⟩
          · rw [hh]; decide
          · rw [hh]; decide
          · rw [hh]; decide
          · rw [decide_eq_true (show (48 : Int) ≤ c.toNat ∧ (c.toNat : Int) ≤ 57 by omega)]
            cases (bif bif !decide ((c.toNat : Int) = (43 : Int)) then !decide ((c.toNat : Int) = (45 : Int)) else false then !decide ((c.toNat : Int) = (46 : Int)) else false) <;> decide
      · have g3 := of_decide_eq_false h3
        have g4 := of_decide_eq_false h4
        rw [if_neg (by omega), if_neg (by omega), if_pos] at h2
        · exact ⟨⟨by omega, by omega⟩, rfl, ⟨by omega, by omega, h2⟩, by omega⟩
        · refine Classical.byContradiction fun hh => ?_
          have : digC c = true ↔ (48 ≤ c.toNat ∧ c.toNat ≤ 57) := by unfold digC; exact decide_eq_true_iff
          rw [this] at hh
          rw [decide_eq_false (show ¬ (c.toNat : Int) = 43 by omega), decide_eq_false (show ¬ (c.toNat : Int) = 45 by omega), decide_eq_false (show ¬ (c.toNat : Int) = 46 by omega), decide_eq_false (show ¬ ((48 : Int) ≤ c.toNat ∧ (c.toNat : Int) ≤ 57) by omega)] at h5
          cases h5
  · have hge : ¬ x < (l.length : Int) := of_decide_eq_false h
    obtain ⟨h0, h1, h2⟩ := hx
    rw [show x.toNat = l.length by omega, List.drop_length] at h2
    show PV.tup _ = PV.tup _
    rw [← h2]
    rfl)
def ent_scheme : List PV → Option CallR := fun xs => match xs with
  | [.str l] => some ⟨l.length ≤ 60, .tup [.str (schm l l 0).1, .str (schm l l 0).2.1, .bool (schm l l 0).2.2]⟩
  | _ => none
theorem ent_scheme_ok : ∀ xs c, ent_scheme xs = some c → FuncOk Tryz.prog noT 5 xs c := fun xs c h => by
  unfold ent_scheme at h
  split at h
  · injection h with h; subst h; exact ok_scheme _
  · cases h
end Go.Proofs.YtojombahfmicbaaGreatDoor

/- The function gossamer/gossamerref12.Scheme does what is told of it. -/
namespace Go.Proofs.YtojombahfmicbaaGreatDoor
open Go Go.Proofs Go.RowKit Go.Vc

def X_rscheme : Tbl := tblX [(14, ent_rlower)]
def H_rscheme (l : Bs) : Loops := fun i => bif Nat.beq i 2 then some ⟨(Int), (fun s x => ((((((s.put 5 (.int .i64 x)).put 6 .undef).put 7 .undef).put 11 .undef).put 31 .undef).put 46 .undef)), (fun s => s.int 5), (fun s x => let i := x; 0 ≤ i ∧ i ≤ l.length ∧ schm l (l.drop i.toNat) i.toNat = schm l l 0), (fun s x => let i := x; ((l.length : Int) - i).toNat), [6, 7, 11, 31, 46]⟩ else none
theorem X_rscheme_ok : XOk Tryz.prog noT X_rscheme := tblX_cons ent_rlower_ok (tblX_nil)
theorem vc_rscheme (l : Bs) (k : PV → Prop) : evF Tryz.prog X_rscheme noT (H_rscheme l) 1000 Tryz.f6 [.str l] k = (
  Go.Vc.VS.mk []
        [(nat_lit 0, Go.Vc.PV.str l), (nat_lit 2, Go.Vc.PV.str (ByteArray.mk #[]).data.toList), (nat_lit 3, Go.Vc.PV.str (ByteArray.mk #[]).data.toList),
          (nat_lit 4, Go.Vc.PV.bool false), (nat_lit 5, Go.Vc.PV.int Go.IntKind.i64 (0 : Int)), ((6 : Nat), Go.Vc.PV.undef), ((7 : Nat), Go.Vc.PV.undef),
          ((11 : Nat), Go.Vc.PV.undef), ((31 : Nat), Go.Vc.PV.undef), ((46 : Nat), Go.Vc.PV.undef)]
        [] =
      Go.Vc.VS.mk []
        [(nat_lit 0, Go.Vc.PV.str l), (nat_lit 2, Go.Vc.PV.str (ByteArray.mk #[]).data.toList), (nat_lit 3, Go.Vc.PV.str (ByteArray.mk #[]).data.toList),
          (nat_lit 4, Go.Vc.PV.bool false), ((5 : Nat), Go.Vc.PV.int Go.IntKind.i64 (0 : Int)), ((6 : Nat), Go.Vc.PV.undef), ((7 : Nat), Go.Vc.PV.undef),
          ((11 : Nat), Go.Vc.PV.undef), ((31 : Nat), Go.Vc.PV.undef), ((46 : Nat), Go.Vc.PV.undef)]
        [] ∧
    ((0 : Int) ≤ (0 : Int) ∧
        (0 : Int) ≤ ↑(List.length l) ∧
          Go.Proofs.YtojombahfmicbaaGreatDoor.schm l (List.drop (Int.toNat (0 : Int)) l) (Int.toNat (0 : Int)) =
            Go.Proofs.YtojombahfmicbaaGreatDoor.schm l l (0 : Nat)) ∧
      ∀ (x : Int),
        (0 : Int) ≤ x ∧
            x ≤ ↑(List.length l) ∧
              Go.Proofs.YtojombahfmicbaaGreatDoor.schm l (List.drop x.toNat l) x.toNat = Go.Proofs.YtojombahfmicbaaGreatDoor.schm l l (0 : Nat) →
          (decide (x < Go.Vc.lenZ l) = true →
              Go.Vc.within x (Go.Vc.lenZ l) ∧
                ((bif decide ((0 : Int) < x) then decide (Go.Vc.byteZ l x = (58 : Int)) else false) = true →
                    Go.Vc.upto (0 : Int) x (Go.Vc.lenZ l) ∧
                      (Go.Vc.takeZ l x).length.le (1000000 : Nat) ∧
                        Go.Vc.inI64 (x + (1 : Int)) ∧
                          Go.Vc.upto (x + (1 : Int)) (Go.Vc.lenZ l) (Go.Vc.lenZ l) ∧
                            k
                              (Go.Vc.PV.tup
                                [Go.Vc.PV.str (Go.Proofs.YtojombahfmicbaaGreatDoor.lowB (Go.Vc.takeZ l x)), Go.Vc.PV.str (Go.Vc.dropZ l (x + (1 : Int))),
                                  Go.Vc.PV.bool true])) ∧
                  ((bif decide ((0 : Int) < x) then decide (Go.Vc.byteZ l x = (58 : Int)) else false) = false →
                    ((bif
                              bif bif decide ((97 : Int) ≤ Go.Vc.byteZ l x) then decide (Go.Vc.byteZ l x ≤ (122 : Int)) else false then true
                              else bif decide ((65 : Int) ≤ Go.Vc.byteZ l x) then decide (Go.Vc.byteZ l x ≤ (90 : Int)) else false then
                            true
                          else
                            bif decide ((0 : Int) < x) then
                              bif
                                  bif
                                      bif bif decide ((48 : Int) ≤ Go.Vc.byteZ l x) then decide (Go.Vc.byteZ l x ≤ (57 : Int)) else false then true
                                      else decide (Go.Vc.byteZ l x = (43 : Int)) then
                                    true
                                  else decide (Go.Vc.byteZ l x = (45 : Int)) then
                                true
                              else decide (Go.Vc.byteZ l x = (46 : Int))
                            else false) =
                          true →
                        Go.Vc.inI64 (x + (1 : Int)) ∧
                          Go.Vc.VS.mk []
                                [(nat_lit 0, Go.Vc.PV.str l), (nat_lit 2, Go.Vc.PV.str (ByteArray.mk #[]).data.toList),
                                  (nat_lit 3, Go.Vc.PV.str (ByteArray.mk #[]).data.toList), (nat_lit 4, Go.Vc.PV.bool false),
                                  ((5 : Nat), Go.Vc.PV.int Go.IntKind.i64 (x + (1 : Int))), ((6 : Nat), Go.Vc.PV.undef), ((7 : Nat), Go.Vc.PV.undef),
                                  ((11 : Nat), Go.Vc.PV.undef), ((31 : Nat), Go.Vc.PV.undef), ((46 : Nat), Go.Vc.PV.undef)]
                                [] =
                              Go.Vc.VS.mk []
                                [(nat_lit 0, Go.Vc.PV.str l), (nat_lit 2, Go.Vc.PV.str (ByteArray.mk #[]).data.toList),
                                  (nat_lit 3, Go.Vc.PV.str (ByteArray.mk #[]).data.toList), (nat_lit 4, Go.Vc.PV.bool false),
                                  ((5 : Nat), Go.Vc.PV.int Go.IntKind.i64 (x + (1 : Int))), ((6 : Nat), Go.Vc.PV.undef), ((7 : Nat), Go.Vc.PV.undef),
                                  ((11 : Nat), Go.Vc.PV.undef), ((31 : Nat), Go.Vc.PV.undef), ((46 : Nat), Go.Vc.PV.undef)]
                                [] ∧
                            ((0 : Int) ≤ x + (1 : Int) ∧
                                x + (1 : Int) ≤ ↑(List.length l) ∧
                                  Go.Proofs.YtojombahfmicbaaGreatDoor.schm l (List.drop (x + (1 : Int)).toNat l) (x + (1 : Int)).toNat =
                                    Go.Proofs.YtojombahfmicbaaGreatDoor.schm l l (0 : Nat)) ∧
                              (↑(List.length l) - (x + (1 : Int))).toNat < (↑(List.length l) - x).toNat) ∧
                      ((bif
                              bif bif decide ((97 : Int) ≤ Go.Vc.byteZ l x) then decide (Go.Vc.byteZ l x ≤ (122 : Int)) else false then true
                              else bif decide ((65 : Int) ≤ Go.Vc.byteZ l x) then decide (Go.Vc.byteZ l x ≤ (90 : Int)) else false then
                            true
                          else
                            bif decide ((0 : Int) < x) then
                              bif
                                  bif
                                      bif bif decide ((48 : Int) ≤ Go.Vc.byteZ l x) then decide (Go.Vc.byteZ l x ≤ (57 : Int)) else false then true
                                      else decide (Go.Vc.byteZ l x = (43 : Int)) then
                                    true
                                  else decide (Go.Vc.byteZ l x = (45 : Int)) then
                                true
                              else decide (Go.Vc.byteZ l x = (46 : Int))
                            else false) =
                          false →
                        k (Go.Vc.PV.tup [Go.Vc.PV.str (ByteArray.mk #[]).data.toList, Go.Vc.PV.str (ByteArray.mk #[]).data.toList, Go.Vc.PV.bool false])))) ∧
            (decide (x < Go.Vc.lenZ l) = false →
              k (Go.Vc.PV.tup [Go.Vc.PV.str (ByteArray.mk #[]).data.toList, Go.Vc.PV.str (ByteArray.mk #[]).data.toList, Go.Vc.PV.bool false]))) := by kernel_rfl
theorem ok_rscheme (l : Bs) : FuncOk Tryz.prog noT 6 [.str l] ⟨l.length ≤ 60, .tup [.str (schm l l 0).1, .str (schm l l 0).2.1, .bool (schm l l 0).2.2]⟩ := evF_ok (by kernel_rfl) X_rscheme_ok (H := H_rscheme l) (fuel := 1000) Tryz.func6 (by kernel_rfl) fun hpre => (vc_rscheme l _).mpr (by
  refine ⟨rfl, ⟨by omega, by omega, rfl⟩, fun x hx => ⟨fun h => ?_, fun h => ?_⟩⟩
  · obtain ⟨h0, h1, h2⟩ := hx
    have hlt : x < (l.length : Int) := of_decide_eq_true h
    obtain ⟨c, hc⟩ : ∃ c, c = l.getD x.toNat 0 := ⟨_, rfl⟩
    have hby : byteZ l x = (c.toNat : Int) := by rw [hc]; rfl
    have hd : l.drop x.toNat = c :: l.drop (x.toNat + 1) := by
      rw [List.drop_eq_getElem_cons (by omega), hc, List.getD_eq_getElem?_getD, List.getElem?_eq_getElem (by omega)]
      rfl
    have hs : (x + 1).toNat = x.toNat + 1 := by omega
    have hcr := c.toNat_lt
    rw [hd, schm] at h2
    rw [hs, hby]
    refine ⟨⟨h0, hlt⟩, fun h3 => ?_, fun h3 => ⟨fun h5 => ?_, fun h5 => ?_⟩⟩
    · simp only [andB, orB, Bool.and_eq_true, Bool.or_eq_true, decide_eq_true_eq] at h3
      obtain ⟨g1, g2⟩ := h3
      have e : ¬ letC c = true := by rw [letC_iff]; omega
      rw [if_neg e, if_neg (by omega), if_pos (by omega)] at h2
      have hl1 : (takeZ l x).length ≤ 60 := by unfold takeZ; rw [List.length_take]; omega
      refine ⟨⟨by omega, h0, h1⟩, Nat.le_trans hl1 (by decide), ⟨by omega, by omega⟩, ⟨by omega, by unfold lenZ; omega, Int.le_refl _⟩, ?_⟩
      show PV.tup _ = PV.tup _
      rw [← h2]
      show PV.tup [.str (lowB (l.take x.toNat)), .str (l.drop (x + 1).toNat), .bool true] = _
      rw [hs]
    · simp only [andB, orB, ← Bool.not_eq_true, Bool.and_eq_true, Bool.or_eq_true, decide_eq_true_eq] at h3
      simp only [andB, orB, Bool.and_eq_true, Bool.or_eq_true, decide_eq_true_eq] at h5
      have nxt : schm l (l.drop (x.toNat + 1)) (x.toNat + 1) = schm l l 0 := by
        by_cases e : letC c = true
        · rw [if_pos e] at h2; exact h2
        · rw [if_neg e] at h2
          rw [letC_iff] at e
          rw [if_neg (by omega), if_neg (by omega), if_pos (by rw [digC_iff]; omega)] at h2
          exact h2
      exact ⟨⟨by omega, by omega⟩, rfl, ⟨by omega, by omega, nxt⟩, by omega⟩
    · simp only [andB, orB, ← Bool.not_eq_true, Bool.and_eq_true, Bool.or_eq_true, decide_eq_true_eq] at h3 h5
      have e : ¬ letC c = true := by rw [letC_iff]; omega
      rw [if_neg e] at h2
      show PV.tup _ = PV.tup _
      by_cases hx0 : x.toNat = 0
      · rw [if_pos hx0] at h2
        rw [← h2]
        try rfl
      · rw [if_neg hx0, if_neg (by omega), if_neg (by rw [digC_iff]; omega)] at h2
        rw [← h2]
        try rfl
  · have hge : ¬ x < (l.length : Int) := of_decide_eq_false h
    obtain ⟨h0, h1, h2⟩ := hx
    rw [show x.toNat = l.length by omega, List.drop_length] at h2
    show PV.tup _ = PV.tup _
    rw [← h2]
    rfl)
def ent_rscheme : List PV → Option CallR := fun xs => match xs with
  | [.str l] => some ⟨l.length ≤ 60, .tup [.str (schm l l 0).1, .str (schm l l 0).2.1, .bool (schm l l 0).2.2]⟩
  | _ => none
theorem ent_rscheme_ok : ∀ xs c, ent_rscheme xs = some c → FuncOk Tryz.prog noT 6 xs c := fun xs c h => by
  unfold ent_rscheme at h
  split at h
  · injection h with h; subst h; exact ok_rscheme _
  · cases h
end Go.Proofs.YtojombahfmicbaaGreatDoor

/- What awake says. -/
namespace Go.Proofs.YtojombahfmicbaaGreatDoor
open Go Go.Proofs Go.RowKit Go.Vc
theorem awake_calls (w : World) : Calls Tryz.prog 4 (([] : List Value).toArray) w fun e w' => e = .returned (.bool true) ∧ Below w.heap.size w w' :=
  runs0.plain (n := 4) Tryz.func4 rfl (by decide +kernel) (xs := []) rfl (awake_eval _) w
theorem ok_awake : FuncOk Tryz.prog noT 4 [] ⟨True, .bool true⟩ :=
  FuncOk.of_calls (fn := Tryz.f4) Tryz.func4 (by kernel_rfl) rfl fun _ F w vs hF hT hx => ⟨.bool true, by rw [show vs = [] from hx]; exact awake_calls w, fun G w => rfl⟩
def ent_awake : List PV → Option CallR := fun xs => match xs with
  | [] => some ⟨True, .bool true⟩
  | _ => none
theorem ent_awake_ok : ∀ xs c, ent_awake xs = some c → FuncOk Tryz.prog noT 4 xs c := fun xs c h => by
  unfold ent_awake at h
  split at h
  · injection h with h; subst h; exact ok_awake
  · cases h
end Go.Proofs.YtojombahfmicbaaGreatDoor

/- The function gossamer/gossamerlaw12.UrlWords does what is told of it. -/
namespace Go.Proofs.YtojombahfmicbaaGreatDoor
open Go Go.Proofs Go.RowKit Go.Vc

def X_law : Tbl := tblX [(5, ent_scheme), (6, ent_rscheme), (7, ent_special), (8, ent_rspecial), (4, ent_awake)]
def H_law (l : Bs) : Loops := fun i => none
theorem X_law_ok : XOk Tryz.prog noT X_law := tblX_cons ent_scheme_ok (tblX_cons ent_rscheme_ok (tblX_cons ent_special_ok (tblX_cons ent_rspecial_ok (tblX_cons ent_awake_ok (tblX_nil)))))
theorem vc_law (l : Bs) (k : PV → Prop) : evF Tryz.prog X_law noT (H_law l) 1000 Tryz.f3 [.str l] k = (
  (decide ((60 : Int) < Go.Vc.lenZ l) = true → True ∧ k (Go.Vc.PV.bool true)) ∧
    (decide ((60 : Int) < Go.Vc.lenZ l) = false →
      (List.length l).le (60 : Nat) ∧
        (List.length l).le (60 : Nat) ∧
          True ∧
            True ∧
              True ∧
                True ∧
                  ((bif
                            bif
                                bif
                                    bif
                                        bif
                                            bif
                                                decide
                                                  ((Go.Proofs.YtojombahfmicbaaGreatDoor.schm l l (0 : Nat)).fst =
                                                    (Go.Proofs.YtojombahfmicbaaGreatDoor.schm l l (0 : Nat)).fst) then
                                              decide
                                                ((Go.Proofs.YtojombahfmicbaaGreatDoor.schm l l (0 : Nat)).snd.fst =
                                                  (Go.Proofs.YtojombahfmicbaaGreatDoor.schm l l (0 : Nat)).snd.fst)
                                            else false then
                                          decide
                                            ((Go.Proofs.YtojombahfmicbaaGreatDoor.schm l l (0 : Nat)).snd.snd =
                                              (Go.Proofs.YtojombahfmicbaaGreatDoor.schm l l (0 : Nat)).snd.snd)
                                        else false then
                                      decide
                                        (Go.Proofs.YtojombahfmicbaaGreatDoor.spZ (Go.Proofs.YtojombahfmicbaaGreatDoor.schm l l (0 : Nat)).fst =
                                          Go.Proofs.YtojombahfmicbaaGreatDoor.spZ (Go.Proofs.YtojombahfmicbaaGreatDoor.schm l l (0 : Nat)).fst)
                                    else false then
                                  decide
                                    (Go.Proofs.YtojombahfmicbaaGreatDoor.spB (Go.Proofs.YtojombahfmicbaaGreatDoor.schm l l (0 : Nat)).fst =
                                      Go.Proofs.YtojombahfmicbaaGreatDoor.spB (Go.Proofs.YtojombahfmicbaaGreatDoor.schm l l (0 : Nat)).fst)
                                else false then
                              decide (Go.Proofs.YtojombahfmicbaaGreatDoor.spZ l = Go.Proofs.YtojombahfmicbaaGreatDoor.spZ l)
                            else false then
                          decide (Go.Proofs.YtojombahfmicbaaGreatDoor.spB l = Go.Proofs.YtojombahfmicbaaGreatDoor.spB l)
                        else false) =
                        true →
                      True) ∧
                    k
                      (Go.Vc.PV.bool
                        (bif
                            bif
                                bif
                                    bif
                                        bif
                                            bif
                                                bif
                                                    decide
                                                      ((Go.Proofs.YtojombahfmicbaaGreatDoor.schm l l (0 : Nat)).fst =
                                                        (Go.Proofs.YtojombahfmicbaaGreatDoor.schm l l (0 : Nat)).fst) then
                                                  decide
                                                    ((Go.Proofs.YtojombahfmicbaaGreatDoor.schm l l (0 : Nat)).snd.fst =
                                                      (Go.Proofs.YtojombahfmicbaaGreatDoor.schm l l (0 : Nat)).snd.fst)
                                                else false then
                                              decide
                                                ((Go.Proofs.YtojombahfmicbaaGreatDoor.schm l l (0 : Nat)).snd.snd =
                                                  (Go.Proofs.YtojombahfmicbaaGreatDoor.schm l l (0 : Nat)).snd.snd)
                                            else false then
                                          decide
                                            (Go.Proofs.YtojombahfmicbaaGreatDoor.spZ (Go.Proofs.YtojombahfmicbaaGreatDoor.schm l l (0 : Nat)).fst =
                                              Go.Proofs.YtojombahfmicbaaGreatDoor.spZ (Go.Proofs.YtojombahfmicbaaGreatDoor.schm l l (0 : Nat)).fst)
                                        else false then
                                      decide
                                        (Go.Proofs.YtojombahfmicbaaGreatDoor.spB (Go.Proofs.YtojombahfmicbaaGreatDoor.schm l l (0 : Nat)).fst =
                                          Go.Proofs.YtojombahfmicbaaGreatDoor.spB (Go.Proofs.YtojombahfmicbaaGreatDoor.schm l l (0 : Nat)).fst)
                                    else false then
                                  decide (Go.Proofs.YtojombahfmicbaaGreatDoor.spZ l = Go.Proofs.YtojombahfmicbaaGreatDoor.spZ l)
                                else false then
                              decide (Go.Proofs.YtojombahfmicbaaGreatDoor.spB l = Go.Proofs.YtojombahfmicbaaGreatDoor.spB l)
                            else false then
                          true
                        else false)))) := by kernel_rfl
theorem ok_law (l : Bs) : FuncOk Tryz.prog noT 3 [.str l] ⟨True, .bool true⟩ := evF_ok (by kernel_rfl) X_law_ok (H := H_law l) (fuel := 1000) Tryz.func3 (by kernel_rfl) fun hpre => (vc_law l _).mpr (by
  refine ⟨fun _ => ⟨trivial, rfl⟩, fun h => ?_⟩
  have h1 : ¬ (60 : Int) < lenZ l := of_decide_eq_false h
  have h2 : l.length ≤ 60 := by unfold lenZ at h1; omega
  refine ⟨h2, h2, trivial, trivial, trivial, trivial, fun _ => trivial, ?_⟩
  show PV.bool _ = PV.bool _
  congr 1
  simp)
def ent_law : List PV → Option CallR := fun xs => match xs with
  | [.str l] => some ⟨True, .bool true⟩
  | _ => none
theorem ent_law_ok : ∀ xs c, ent_law xs = some c → FuncOk Tryz.prog noT 3 xs c := fun xs c h => by
  unfold ent_law at h
  split at h
  · injection h with h; subst h; exact ok_law _
  · cases h
end Go.Proofs.YtojombahfmicbaaGreatDoor

