/-
  Chapter 11 as plain numbers: rows of a game, answers, what is left, weights, and which rows are solved with so many questions (as tables that the kernel checks). No program is named.
-/
import Derived.Test.YthfikgaghinfbaaBase
namespace Go.Proofs.Ythfikgaghinfbaa

/-! Rows. -/

def gameB (n : Int) (row : List Int) : Bool := row.all (vokB n) && inB row.length 1 3 && inB n 1 3
theorem gameB_of {n : Int} {row : List Int} (h : gameB n row = true) : (1 ≤ n ∧ n ≤ 3) ∧ (1 ≤ row.length ∧ row.length ≤ 3) ∧ ∀ k, k < row.length → 0 ≤ row.getD k 0 ∧ row.getD k 0 ≤ n := by
  unfold gameB at h
  rw [Bool.and_eq_true, Bool.and_eq_true, List.all_eq_true] at h
  have h1 := inB_of h.1.2
  have h2 := inB_of h.2
  refine ⟨h2, by omega, fun k hk => ?_⟩
  have h3 := h.1.1 (row[k]'hk) (List.getElem_mem _)
  unfold vokB at h3
  rw [List.getD_eq_getElem?_getD, List.getElem?_eq_getElem hk]
  simp at h3 ⊢
  omega
theorem gameB_mk {n : Int} {row : List Int} (hn : 1 ≤ n ∧ n ≤ 3) (hl : 1 ≤ row.length ∧ row.length ≤ 3) (h : ∀ k, k < row.length → 0 ≤ row.getD k 0 ∧ row.getD k 0 ≤ n) : gameB n row = true := by
  unfold gameB
  rw [Bool.and_eq_true, Bool.and_eq_true, List.all_eq_true]
  refine ⟨⟨fun x hx => ?_, inB_t (by omega)⟩, inB_t hn⟩
  obtain ⟨k, hk, rfl⟩ := List.mem_iff_getElem.1 hx
  have := h k hk
  rw [List.getD_eq_getElem?_getD, List.getElem?_eq_getElem hk] at this
  unfold vokB
  simp at this ⊢
  omega
theorem row_ext {x y : List Int} (hl : x.length = y.length) (h : ∀ k, k < x.length → x.getD k 0 = y.getD k 0) : x = y := by
  refine List.ext_getElem hl fun k h1 h2 => ?_
  have := h k h1
  rw [List.getD_eq_getElem?_getD, List.getElem?_eq_getElem h1, List.getD_eq_getElem?_getD, List.getElem?_eq_getElem h2] at this
  exact this

/-! Answers. -/

def bitB (s k : Nat) : Bool := s / 2 ^ k % 2 == 1
def dn (x : Int) : Int := if 0 < x - 1 then x - 1 else 0
def ansK (row : List Int) (s : Nat) (y : Bool) (k : Nat) : Int := if (bitB s k != y) = true then dn (row.getD k 0) else row.getD k 0
def ansL (row : List Int) (s : Nat) (y : Bool) : List Int := (List.range row.length).map (ansK row s y)
theorem ans_len (row : List Int) (s : Nat) (y : Bool) : (ansL row s y).length = row.length := by simp [ansL]
theorem ans_at (row : List Int) (s : Nat) (y : Bool) {k : Nat} (hk : k < row.length) : (ansL row s y).getD k 0 = ansK row s y k := by
  unfold ansL
  rw [List.getD_eq_getElem?_getD, List.getElem?_map, List.getElem?_range hk]
  rfl
theorem dn_le {x : Int} (h : 0 ≤ x) : 0 ≤ dn x ∧ dn x ≤ x := by unfold dn; split <;> omega
theorem ansK_le {row : List Int} (h : ∀ k, k < row.length → 0 ≤ row.getD k 0) (s : Nat) (y : Bool) {k : Nat} (hk : k < row.length) : 0 ≤ ansK row s y k ∧ ansK row s y k ≤ row.getD k 0 := by
  have := h k hk
  unfold ansK
  split
  · exact dn_le this
  · omega
theorem ans_game {n : Int} {row : List Int} (h : gameB n row = true) (s : Nat) (y : Bool) : gameB n (ansL row s y) = true := by
  obtain ⟨h1, h2, h3⟩ := gameB_of h
  refine gameB_mk h1 (by rw [ans_len]; exact h2) fun k hk => ?_
  rw [ans_len] at hk
  rw [ans_at row s y hk]
  have a := ansK_le (fun k hk => (h3 k hk).1) s y hk
  have b := h3 k hk
  omega
/-- The order of answers does not matter. -/
theorem ans_comm (row : List Int) (s t : Nat) (y z : Bool) : ansL (ansL row s y) t z = ansL (ansL row t z) s y := by
  refine row_ext (by simp [ans_len]) fun k hk => ?_
  rw [ans_len, ans_len] at hk
  rw [ans_at _ _ _ (by rw [ans_len]; exact hk), ans_at _ _ _ (by rw [ans_len]; exact hk)]
  unfold ansK
  rw [ans_at row s y hk, ans_at row t z hk]
  unfold ansK
  split <;> split <;> rfl
theorem flip_tab : ((List.range 4).all fun L => (List.range (2 ^ L)).all fun s => (List.range L).all fun k => bitB (2 ^ L - 1 - s) k == !bitB s k) = true := by decide +kernel
/-- Yes to a set is no to all other numbers. -/
theorem ans_flip {row : List Int} (hl : row.length ≤ 3) {s : Nat} (hs : s < 2 ^ row.length) (y : Bool) : ansL row (2 ^ row.length - 1 - s) (!y) = ansL row s y := by
  refine row_ext (by simp [ans_len]) fun k hk => ?_
  rw [ans_len] at hk
  rw [ans_at _ _ _ hk, ans_at _ _ _ hk]
  have h := flip_tab
  rw [List.all_eq_true] at h
  have h := h row.length (List.mem_range.2 (by omega))
  rw [List.all_eq_true] at h
  have h := h s (List.mem_range.2 hs)
  rw [List.all_eq_true] at h
  have h := beq_iff_eq.1 (h k (List.mem_range.2 hk))
  unfold ansK
  rw [h]
  cases bitB s k <;> cases y <;> rfl

/-! What is left. -/

def leftK (row : List Int) : Nat → Int
  | 0 => 0
  | k + 1 => leftK row k + (if row.getD k 0 < 1 then row.getD k 0 else 1)
def sumK (row : List Int) : Nat → Int
  | 0 => 0
  | k + 1 => sumK row k + row.getD k 0
def leftL (row : List Int) : Int := leftK row row.length
theorem left_le {row : List Int} (h : ∀ k, k < row.length → 0 ≤ row.getD k 0) : ∀ k, k ≤ row.length → 0 ≤ leftK row k ∧ leftK row k ≤ k ∧ 0 ≤ sumK row k ∧ (leftK row k = 0 ↔ sumK row k = 0)
  | 0, _ => ⟨by simp [leftK], by simp [leftK], by simp [sumK], by simp [leftK, sumK]⟩
  | k + 1, hk => by
    obtain ⟨a, b, c, d⟩ := left_le h k (by omega)
    have e := h k (by omega)
    unfold leftK sumK
    split
    · refine ⟨by omega, by omega, by omega, by omega⟩
    · refine ⟨by omega, by omega, by omega, by omega⟩
theorem left_ans {row : List Int} (h : ∀ k, k < row.length → 0 ≤ row.getD k 0) (s : Nat) (y : Bool) : ∀ k, k ≤ row.length → leftK (ansL row s y) k ≤ leftK row k
  | 0, _ => by simp [leftK]
  | k + 1, hk => by
    have a := left_ans h s y k (by omega)
    have b := ansK_le h s y (k := k) (by omega)
    unfold leftK
    rw [ans_at row s y (by omega)]
    split <;> split <;> omega

/-! Weights. -/

def chN : Nat → Nat → Nat
  | _, 0 => 1
  | 0, _ + 1 => 0
  | n + 1, k + 1 => chN n (k + 1) + chN n k
theorem chN_gt : ∀ (n k : Nat), n < k → chN n k = 0
  | n, 0, h => by omega
  | 0, k + 1, _ => rfl
  | n + 1, k + 1, h => by
    show chN n (k + 1) + chN n k = 0
    rw [chN_gt n (k + 1) (by omega), chN_gt n k (by omega)]
theorem chN_zero (n : Nat) : chN n 0 = 1 := by cases n <;> rfl
def wV (q : Nat) : Nat → Nat
  | 0 => 0
  | x + 1 => wV q x + chN q x
theorem wV_share (q : Nat) : ∀ x, wV (q + 1) (x + 1) = wV q (x + 1) + wV q x
  | 0 => by show 0 + chN (q + 1) 0 = (0 + chN q 0) + 0; rw [chN_zero, chN_zero]
  | x + 1 => by
    have h := wV_share q x
    show wV (q + 1) (x + 1) + chN (q + 1) (x + 1) = (wV q (x + 1) + chN q (x + 1)) + wV q (x + 1)
    rw [h]
    show wV q (x + 1) + wV q x + (chN q (x + 1) + chN q x) = wV q (x + 1) + chN q (x + 1) + (wV q x + chN q x)
    omega
def wK (row : List Int) (q : Nat) : Nat → Nat
  | 0 => 0
  | k + 1 => wK row q k + wV q (row.getD k 0).toNat
def weightL (row : List Int) (q : Nat) : Nat := wK row q row.length
/-- Questions share out the weight. -/
theorem w_share {row : List Int} (h : ∀ k, k < row.length → 0 ≤ row.getD k 0) (s q : Nat) : ∀ k, k ≤ row.length → wK row (q + 1) k = wK (ansL row s true) q k + wK (ansL row s false) q k
  | 0, _ => rfl
  | k + 1, hk => by
    have a := w_share h s q k (by omega)
    have b := h k (by omega)
    have key : wV (q + 1) (row.getD k 0).toNat = wV q (ansK row s true k).toNat + wV q (ansK row s false k).toNat := by
      obtain ⟨X, hX⟩ := Int.eq_ofNat_of_zero_le b
      unfold ansK
      rw [hX]
      cases X with
      | zero =>
        have e : dn ((0 : Nat) : Int) = 0 := by unfold dn; simp
        rw [e]
        cases bitB s k <;> rfl
      | succ X =>
        have e : dn ((X + 1 : Nat) : Int) = (X : Int) := by unfold dn; split <;> omega
        rw [e]
        have e1 : ((X + 1 : Nat) : Int).toNat = X + 1 := by omega
        have e2 : ((X : Nat) : Int).toNat = X := by omega
        cases bitB s k
        · show wV (q + 1) ((X + 1 : Nat) : Int).toNat = wV q (X : Int).toNat + wV q ((X + 1 : Nat) : Int).toNat
          rw [e1, e2, wV_share]; omega
        · show wV (q + 1) ((X + 1 : Nat) : Int).toNat = wV q ((X + 1 : Nat) : Int).toNat + wV q (X : Int).toNat
          rw [e1, e2, wV_share]
    show wK row (q + 1) k + wV (q + 1) (row.getD k 0).toNat = (wK (ansL row s true) q k + wV q ((ansL row s true).getD k 0).toNat) + (wK (ansL row s false) q k + wV q ((ansL row s false).getD k 0).toNat)
    rw [ans_at row s true (by omega), ans_at row s false (by omega), key, a]
    omega
theorem wV_none : ∀ x, wV 0 x = if x < 1 then x else 1
  | 0 => rfl
  | 1 => rfl
  | x + 2 => by
    have h := wV_none (x + 1)
    show wV 0 (x + 1) + chN 0 (x + 1) = _
    rw [h]
    simp [chN]
/-- Before none it is how many values are not 0. -/
theorem w_none {row : List Int} (h : ∀ k, k < row.length → 0 ≤ row.getD k 0) : ∀ k, k ≤ row.length → (wK row 0 k : Int) = leftK row k
  | 0, _ => rfl
  | k + 1, hk => by
    have a := w_none h k (by omega)
    have b := h k (by omega)
    show ((wK row 0 k + wV 0 (row.getD k 0).toNat : Nat) : Int) = leftK row k + (if row.getD k 0 < 1 then row.getD k 0 else 1)
    rw [wV_none]
    split <;> split <;> omega

/-! Which rows are solved with so many questions: tables. -/

/-- The rows that are solved with q questions, as a number: bit c tells of the row with number c. -/
def solM : Nat → Nat → List Nat
  | 1, 1 => [3, 3, 3, 3, 3, 3, 3, 3, 3, 3, 3, 3, 3, 3]
  | 1, 2 => [7, 15, 15, 15, 15, 15, 15, 15, 15, 15, 15, 15, 15, 15]
  | 1, 3 => [23, 127, 255, 255, 255, 255, 255, 255, 255, 255, 255, 255, 255, 255]
  | 2, 1 => [7, 7, 7, 7, 7, 7, 7, 7, 7, 7, 7, 7, 7, 7]
  | 2, 2 => [79, 95, 255, 511, 511, 511, 511, 511, 511, 511, 511, 511, 511, 511]
  | 2, 3 => [262735, 267871, 2932479, 25034751, 67108863, 134217727, 134217727, 134217727, 134217727, 134217727, 134217727, 134217727, 134217727, 134217727]
  | 3, 1 => [15, 15, 15, 15, 15, 15, 15, 15, 15, 15, 15, 15, 15, 15]
  | 3, 2 => [4383, 4415, 4991, 14335, 32767, 65535, 65535, 65535, 65535, 65535, 65535, 65535, 65535, 65535]
  | 3, 3 => [281479271747871, 281479272927551, 281556601475967, 5349360619436031, 87560154878279679, 1404903179266555903, 4035084528635609087, 9223372036854775807, 18446744073709551615, 18446744073709551615, 18446744073709551615, 18446744073709551615, 18446744073709551615, 18446744073709551615]
  | _, _ => []
def svB (N L q c : Nat) : Bool := (solM N L).getD q 0 / 2 ^ c % 2 == 1
def digN (N L c k : Nat) : Nat := c / (N + 1) ^ (L - 1 - k) % (N + 1)
def rowN (N L c : Nat) : List Nat := (List.range L).map (digN N L c)
def codeN (N : Nat) (r : List Nat) : Nat := r.foldl (fun a x => a * (N + 1) + x) 0
def ansN (N L c s : Nat) (y : Bool) : Nat := codeN N ((List.range L).map fun k => if (bitB s k != y) = true then digN N L c k - 1 else digN N L c k)
def leftN (N L c : Nat) : Nat := (rowN N L c).foldl (fun a x => a + min x 1) 0
def allG (p : Nat → Nat → Nat → Bool) : Bool := [1, 2, 3].all fun N => [1, 2, 3].all fun L => (List.range ((N + 1) ^ L)).all fun c => p N L c
theorem allG_at {p : Nat → Nat → Nat → Bool} (h : allG p = true) {N L c : Nat} (hN : 1 ≤ N ∧ N ≤ 3) (hL : 1 ≤ L ∧ L ≤ 3) (hc : c < (N + 1) ^ L) : p N L c = true := by
  unfold allG at h
  rw [List.all_eq_true] at h
  have h := h N (by have : N = 1 ∨ N = 2 ∨ N = 3 := by omega
                    rcases this with rfl | rfl | rfl <;> simp)
  rw [List.all_eq_true] at h
  have h := h L (by have : L = 1 ∨ L = 2 ∨ L = 3 := by omega
                    rcases this with rfl | rfl | rfl <;> simp)
  rw [List.all_eq_true] at h
  exact h c (List.mem_range.2 hc)
theorem sol_first : allG (fun N L c => svB N L 0 c == decide (leftN N L c < 2)) = true := by decide +kernel
theorem ans_lt : allG (fun N L c => (List.range (2 ^ L)).all fun s => decide (ansN N L c s true < (N + 1) ^ L) && decide (ansN N L c s false < (N + 1) ^ L)) = true := by decide +kernel
theorem sol_next : allG (fun N L c => (List.range 13).all fun q => svB N L (q + 1) c == (svB N L q c || (List.range (2 ^ L)).any fun s => svB N L q (ansN N L c s true) && svB N L q (ansN N L c s false))) = true := by decide +kernel
theorem sol_done : allG (fun N L c => svB N L 12 c) = true := by decide +kernel
def wN (N L c q : Nat) : Nat := (rowN N L c).foldl (fun a x => a + wV q x) 0
theorem sol_weight : allG (fun N L c => (List.range 13).all fun q => !svB N L q c || decide (wN N L c q ≤ 2 ^ q)) = true := by decide +kernel
/-- The fewest questions that are enough. -/
def fewN (N L c : Nat) : Nat := ((List.range 13).find? fun q => svB N L q c).getD 13
theorem few_half : allG (fun N L c => N != 1 || fewN N L c == [0, 0, 1, 2].getD (leftN N L c) 0) = true := by decide +kernel
theorem few_two : ([1, 2, 3].all fun N => fewN N 2 (codeN N [N, N]) == 2 * N - 1) = true := by decide +kernel
def bestN (N L c : Nat) : Nat := ((List.range (2 ^ L)).find? fun s => svB N L (fewN N L c - 1) (ansN N L c s true) && svB N L (fewN N L c - 1) (ansN N L c s false)).getD 8
theorem best_one : allG (fun N L c => fewN N L c == 0 || (decide (bestN N L c < 2 ^ L) && max (fewN N L (ansN N L c (bestN N L c) true)) (fewN N L (ansN N L c (bestN N L c) false)) == fewN N L c - 1)) = true := by decide +kernel

end Go.Proofs.Ythfikgaghinfbaa
