/- Code points told by escapes, read as they are: the plain mathematics of TokEscapes. -/
import Derived.Test.YtkdmmmheciffgaaTokX
import Derived.Test.YtkdmmmheciffgaaUtfM
set_option linter.unusedVariables false
set_option linter.unusedSimpArgs false
namespace Go.Proofs.Ytkdmmmheciffgaa

def hexL : List UInt8 := [48, 49, 50, 51, 52, 53, 54, 55, 56, 57, 97, 66, 99, 68, 101, 70]
def hexD (k : Nat) : UInt8 := hexL.getD k 0
theorem hexD_n (k : Nat) (h : k < 16) : hexN ((hexD k).toNat : Int) = (k : Int) := by
  have : ∀ k, k < 16 → hexN ((hexD k).toNat : Int) = (k : Int) := by decide
  exact this k h
def hex4 (u : Nat) : List UInt8 := [hexD (u / 4096 % 16), hexD (u / 256 % 16), hexD (u / 16 % 16), hexD (u % 16)]
def esc4 (u : Nat) : List UInt8 := 92 :: 117 :: hex4 u
def escU (r : Nat) : List Nat := if r ≤ 65535 then [r] else [55296 + (r - 65536) / 1024, 56320 + (r - 65536) % 1024]
def escT (r : Nat) : List UInt8 := (escU r).flatMap esc4
abbrev Piece := Nat × Bool
def pieceT (x : Piece) : List UInt8 := if x.2 = true then escT x.1 else encR (x.1 : Int)
def bodyT (Q : List Piece) : List UInt8 := Q.flatMap pieceT
def wantT (Q : List Piece) : List UInt8 := Q.flatMap fun x => encR (x.1 : Int)
def PieceOk (x : Piece) : Prop := okR (x.1 : Int) ∧ (x.2 = false → 32 ≤ x.1 ∧ x.1 ≠ 34 ∧ x.1 ≠ 92)
theorem byt_at' {b x : List UInt8} {p : Nat} (h : b.drop p = x) (i : Nat) : byt b (p + i) = byt x i := by rw [← h, byt_drop]
theorem byt_at0' {b x : List UInt8} {p : Nat} (h : b.drop p = x) : byt b p = byt x 0 := by have := byt_at' h 0; simpa using this
theorem len_at' {b x : List UInt8} {p : Nat} (h : b.drop p = x) (hp : p ≤ b.length) : b.length = p + x.length := by rw [← h]; simp; omega
theorem hex_at {b rest : List UInt8} {p u : Nat} (hu : u < 65536) (h : b.drop p = hex4 u ++ rest) : hexM b 4 p 0 = ((u : Int), p + 4, true) := by
  have h0 : byt b p = ((hexD (u / 4096 % 16)).toNat : Int) := by rw [byt_at0' h]; rfl
  have h1 : byt b (p + 1) = ((hexD (u / 256 % 16)).toNat : Int) := by rw [byt_at' h]; rfl
  have h2 : byt b (p + 1 + 1) = ((hexD (u / 16 % 16)).toNat : Int) := by rw [Nat.add_assoc, byt_at' h]; rfl
  have h3 : byt b (p + 1 + 1 + 1) = ((hexD (u % 16)).toNat : Int) := by rw [Nat.add_assoc, Nat.add_assoc, byt_at' h]; rfl
  have e0 := hexD_n (u / 4096 % 16) (by omega)
  have e1 := hexD_n (u / 256 % 16) (by omega)
  have e2 := hexD_n (u / 16 % 16) (by omega)
  have e3 := hexD_n (u % 16) (by omega)
  rw [hexM_yes (by rw [h0, e0]; omega), hexM_yes (by rw [h1, e1]; omega), hexM_yes (by rw [h2, e2]; omega), hexM_yes (by rw [h3, e3]; omega), h0, h1, h2, h3, e0, e1, e2, e3]
  show ((((0 * 16 + ((u / 4096 % 16 : Nat) : Int)) * 16 + ((u / 256 % 16 : Nat) : Int)) * 16 + ((u / 16 % 16 : Nat) : Int)) * 16 + ((u % 16 : Nat) : Int), p + 1 + 1 + 1 + 1, true) = _
  have e : (((0 * 16 + ((u / 4096 % 16 : Nat) : Int)) * 16 + ((u / 256 % 16 : Nat) : Int)) * 16 + ((u / 16 % 16 : Nat) : Int)) * 16 + ((u % 16 : Nat) : Int) = (u : Int) := by omega
  rw [e]
theorem esc_one {b rest : List UInt8} {p r : Nat} (hr : okR (r : Int)) (h16 : r ≤ 65535) (h : b.drop p = esc4 r ++ rest) : escM b p = (encR (r : Int), p + 6, true) := by
  have h1 : byt b (p + 1) = 117 := by rw [byt_at' h]; rfl
  have hd : b.drop (p + 2) = hex4 r ++ rest := by rw [← List.drop_drop, h]; rfl
  have hx := hex_at (by omega) hd
  have hp : pointM b (r : Int) (p + 2 + 4) = ((r : Int), p + 2 + 4) := pointM_no (by unfold okR at hr; omega)
  unfold escM
  rw [if_pos h1, hx, if_pos rfl]
  show (encR (fixR (pointM b (r : Int) (p + 2 + 4)).1), (pointM b (r : Int) (p + 2 + 4)).2, true) = _
  rw [hp, fixR_of hr]
theorem esc_two {b rest : List UInt8} {p r : Nat} (hr : okR (r : Int)) (h16 : 65535 < r) (h : b.drop p = esc4 (55296 + (r - 65536) / 1024) ++ (esc4 (56320 + (r - 65536) % 1024) ++ rest)) : escM b p = (encR (r : Int), p + 12, true) := by
  have hr2 : r ≤ 1114111 := by unfold okR at hr; omega
  have h1 : byt b (p + 1) = 117 := by rw [byt_at' h]; rfl
  have hd : b.drop (p + 2) = hex4 (55296 + (r - 65536) / 1024) ++ (esc4 (56320 + (r - 65536) % 1024) ++ rest) := by rw [← List.drop_drop, h]; rfl
  have hx := hex_at (by omega) hd
  have hd2 : b.drop (p + 2 + 4) = esc4 (56320 + (r - 65536) % 1024) ++ rest := by rw [← List.drop_drop, hd]; rfl
  have k0 : byt b (p + 2 + 4) = 92 := by rw [byt_at0' hd2]; rfl
  have k1 : byt b (p + 2 + 4 + 1) = 117 := by rw [byt_at' hd2]; rfl
  have hd3 : b.drop (p + 2 + 4 + 2) = hex4 (56320 + (r - 65536) % 1024) ++ rest := by rw [← List.drop_drop, hd2]; rfl
  have hx2 := hex_at (by omega) hd3
  have hlow : lowB b (p + 2 + 4) = true := by
    unfold lowB
    rw [hx2, decide_eq_true_iff]
    refine ⟨k0, k1, rfl, ?_, ?_⟩
    · show (56320 : Int) ≤ ((56320 + (r - 65536) % 1024 : Nat) : Int); omega
    · show ((56320 + (r - 65536) % 1024 : Nat) : Int) < 57344; omega
  have hp : pointM b ((55296 + (r - 65536) / 1024 : Nat) : Int) (p + 2 + 4) = ((r : Int), p + 12) := by
    rw [pointM_yes (by omega) (by omega) hlow, hx2]
    have e : 65536 + (((55296 + (r - 65536) / 1024 : Nat) : Int) - 55296) * 1024 + (((56320 + (r - 65536) % 1024 : Nat) : Int) - 56320) = (r : Int) := by omega
    show (65536 + (((55296 + (r - 65536) / 1024 : Nat) : Int) - 55296) * 1024 + (((56320 + (r - 65536) % 1024 : Nat) : Int) - 56320), p + 2 + 4 + 2 + 4) = _
    rw [e]
  unfold escM
  rw [if_pos h1, hx, if_pos rfl]
  show (encR (fixR (pointM b ((55296 + (r - 65536) / 1024 : Nat) : Int) (p + 2 + 4)).1), (pointM b ((55296 + (r - 65536) / 1024 : Nat) : Int) (p + 2 + 4)).2, true) = _
  rw [hp, fixR_of hr]
theorem esc4_len (u : Nat) : (esc4 u).length = 6 := rfl
theorem escT_len (r : Nat) : (escT r).length ≤ 12 ∧ 6 ≤ (escT r).length := by
  unfold escT escU
  split <;> simp [esc4_len]
theorem encR_first (r : Int) (h0 : 0 ≤ r) (h1 : r ≤ 1114111) (t : List UInt8) : (r < 128 → byt (encR r ++ t) 0 = r) ∧ (128 ≤ r → 128 ≤ byt (encR r ++ t) 0) := by
  unfold encR
  (repeat' split)
  · exact ⟨fun _ => by show ((mkB r).toNat : Int) = r; exact mkB_val h0 (by omega), fun h => by omega⟩
  · refine ⟨fun h => by omega, fun h => ?_⟩
    show 128 ≤ ((mkB (192 + r / 64)).toNat : Int)
    rw [mkB_val (by omega) (by omega)]; omega
  · refine ⟨fun h => by omega, fun h => ?_⟩
    show 128 ≤ ((mkB (224 + r / 4096)).toNat : Int)
    rw [mkB_val (by omega) (by omega)]; omega
  · refine ⟨fun h => by omega, fun h => ?_⟩
    show 128 ≤ ((mkB (240 + r / 262144)).toNat : Int)
    rw [mkB_val (by omega) (by omega)]; omega
theorem sub_at' {b x rest : List UInt8} {p : Nat} (h : b.drop p = x ++ rest) : sub8 b p (p + x.length) = x := by
  unfold sub8
  rw [List.drop_take, h]
  simp
theorem pieceT_t (r : Nat) : pieceT (r, true) = escT r := by unfold pieceT; rw [if_pos rfl]
theorem pieceT_f (r : Nat) : pieceT (r, false) = encR (r : Int) := by unfold pieceT; rw [if_neg (by simp)]
theorem piece_str {b rest acc : List UInt8} {p : Nat} {x : Piece} (hx : PieceOk x) (h : b.drop p = pieceT x ++ rest) (hp : p ≤ b.length) :
    strM b p acc = strM b (p + (pieceT x).length) (acc ++ encR (x.1 : Int)) := by
  obtain ⟨r, e⟩ := x
  obtain ⟨hr, hraw⟩ := hx
  have hr : okR (r : Int) := hr
  have hl := len_at' h hp
  cases e with
  | true =>
    rw [pieceT_t] at h ⊢
    have hl : b.length = p + ((escT r).length + rest.length) := by rw [len_at' h hp]; simp
    have hlen := escT_len r
    have hes : escM b p = (encR (r : Int), p + (escT r).length, true) := by
      by_cases h16 : r ≤ 65535
      · have e1 : escT r = esc4 r := by unfold escT escU; rw [if_pos h16]; simp
        rw [e1] at h ⊢
        exact esc_one hr h16 h
      · have e1 : escT r = esc4 (55296 + (r - 65536) / 1024) ++ esc4 (56320 + (r - 65536) % 1024) := by unfold escT escU; rw [if_neg h16]; simp
        have hl2 : (escT r).length = 12 := by rw [e1]; rfl
        rw [hl2]
        rw [e1, List.append_assoc] at h
        exact esc_two hr (by omega) h
    have h0 : byt b p = 92 := by
      rw [byt_at0' h]
      unfold escT escU
      split <;> rfl
    rw [strM_step b p acc (by omega), h0, if_neg (by decide), if_pos rfl, hes, if_pos rfl]
  | false =>
    have hraw : 32 ≤ r ∧ r ≠ 34 ∧ r ≠ 92 := hraw rfl
    rw [pieceT_f] at h ⊢
    have hl : b.length = p + ((encR (r : Int)).length + rest.length) := by rw [len_at' h hp]; simp
    have hpos := encR_pos (r : Int)
    have hn : nextL (b.drop p) = ((r : Int), (encR (r : Int)).length, true) := by rw [h]; exact next_enc _ hr _
    have hf := encR_first (r : Int) (by omega) (by unfold okR at hr; omega) rest
    rw [← byt_at0' h] at hf
    have hb : byt b p ≠ 34 ∧ byt b p ≠ 92 ∧ ¬ byt b p < 32 := by
      rcases Nat.lt_or_ge r 128 with h5 | h5
      · have := hf.1 (by omega); omega
      · have := hf.2 (by omega); omega
    have hsb : sub8 b p (p + (encR (r : Int)).length) = encR (r : Int) := sub_at' h
    rw [strM_step b p acc (by omega), if_neg hb.1, if_neg hb.2.1, if_neg hb.2.2, hn, if_pos rfl]
    dsimp only
    rw [hsb]
theorem body_str : ∀ (Q : List Piece) (b rest acc : List UInt8) (p : Nat), (∀ x ∈ Q, PieceOk x) → b.drop p = bodyT Q ++ 34 :: rest → p ≤ b.length → strM b p acc = (acc ++ wantT Q, p + (bodyT Q).length + 1, true) := by
  intro Q
  induction Q with
  | nil =>
    intro b rest acc p hk h hp
    have hl := len_at' h hp
    have h0 : byt b p = 34 := by rw [byt_at0' h]; rfl
    simp [bodyT] at hl
    rw [strM_step b p acc (by omega), if_pos h0]
    simp [bodyT, wantT]
  | cons x Q ih =>
    intro b rest acc p hk h hp
    have h1 : b.drop p = pieceT x ++ (bodyT Q ++ 34 :: rest) := by rw [h]; unfold bodyT; rw [List.flatMap_cons, List.append_assoc]
    have hl := len_at' h1 hp
    rw [piece_str (hk x List.mem_cons_self) h1 hp]
    have h2 : b.drop (p + (pieceT x).length) = bodyT Q ++ 34 :: rest := by rw [← List.drop_drop, h1, List.drop_left]
    simp at hl
    rw [ih b rest _ _ (fun y hy => hk y (List.mem_cons_of_mem _ hy)) h2 (by omega)]
    have e1 : (bodyT (x :: Q)).length = (pieceT x).length + (bodyT Q).length := by unfold bodyT; rw [List.flatMap_cons, List.length_append]
    have e2 : wantT (x :: Q) = encR (x.1 : Int) ++ wantT Q := by unfold wantT; rw [List.flatMap_cons]
    rw [e1, e2, List.append_assoc, Nat.add_assoc p]
theorem body_toks {Q : List Piece} (h : ∀ x ∈ Q, PieceOk x) : toksM (34 :: bodyT Q ++ [34]) = ([(7, 0, wantT Q)], (bodyT Q).length + 2, 0) := by
  have hs := body_str Q (34 :: bodyT Q ++ [34]) [] [] 1 h rfl (by simp)
  have h0 : byt (34 :: bodyT Q ++ [34]) 0 = 34 := rfl
  have hl : (34 :: bodyT Q ++ [34]).length = (bodyT Q).length + 2 := by simp
  have ht : tokM (34 :: bodyT Q ++ [34]) 0 = ((7, 0, wantT Q), (bodyT Q).length + 2, true) := by
    unfold tokM
    rw [h0, if_neg (by decide), if_neg (by decide), if_neg (by decide), if_neg (by decide), if_pos rfl]
    rw [Nat.zero_add, hs]
    simp
    omega
  have ha : allM (34 :: bodyT Q ++ [34]) (skipE (34 :: bodyT Q ++ [34]) 0) [] = ([(7, 0, wantT Q)], (bodyT Q).length + 2, true) := by
    rw [skipE_off (by rw [h0]; decide), allM_step (by rw [hl]; omega), ht, if_pos rfl]
    show allM (34 :: bodyT Q ++ [34]) (skipE (34 :: bodyT Q ++ [34]) ((bodyT Q).length + 2)) ([] ++ [(7, 0, wantT Q)]) = _
    rw [skipE_end (by rw [hl]; exact Nat.le_refl _), allM_end hl.symm]
    rfl
  unfold toksM
  rw [ha, if_pos rfl, hl]
theorem bodyT_snoc (Q : List Piece) (x : Piece) : bodyT (Q ++ [x]) = bodyT Q ++ pieceT x := by unfold bodyT; rw [List.flatMap_append]; simp
theorem wantT_snoc (Q : List Piece) (x : Piece) : wantT (Q ++ [x]) = wantT Q ++ encR (x.1 : Int) := by unfold wantT; rw [List.flatMap_append]; simp
theorem pieceT_len (x : Piece) : (pieceT x).length ≤ 12 := by
  unfold pieceT
  split
  · exact (escT_len _).1
  · have := (encR_len (x.1 : Int)).2; omega
theorem bodyT_len : ∀ Q : List Piece, (bodyT Q).length ≤ 12 * Q.length := by
  intro Q
  induction Q with
  | nil => simp [bodyT]
  | cons x Q ih =>
    have := pieceT_len x
    unfold bodyT at ih ⊢
    rw [List.flatMap_cons, List.length_append, List.length_cons]
    omega
theorem wantT_len : ∀ Q : List Piece, (wantT Q).length ≤ 4 * Q.length := by
  intro Q
  induction Q with
  | nil => simp [wantT]
  | cons x Q ih =>
    have := (encR_len (x.1 : Int)).2
    unfold wantT at ih ⊢
    rw [List.flatMap_cons, List.length_append, List.length_cons]
    omega
end Go.Proofs.Ytkdmmmheciffgaa
