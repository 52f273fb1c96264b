/-
  Chapter 11 as plain numbers: rows of integers and their numbers in the tables. No program is named.
-/
import Derived.Test.YthfikgaghinfbaaGame
namespace Go.Proofs.Ythfikgaghinfbaa

def natR (row : List Int) : List Nat := row.map Int.toNat
theorem nat_len (row : List Int) : (natR row).length = row.length := by simp [natR]
theorem nat_at (row : List Int) (k : Nat) : (natR row).getD k 0 = (row.getD k 0).toNat := by
  unfold natR
  rw [List.getD_eq_getElem?_getD, List.getElem?_map, List.getD_eq_getElem?_getD]
  cases row[k]? <;> rfl
theorem dig_tab : ([1, 2, 3].all fun N => (List.range (N + 1)).all fun X => (codeN N [X] < N + 1 && digN N 1 (codeN N [X]) 0 == X) && (List.range (N + 1)).all fun Y => (codeN N [X, Y] < (N + 1) ^ 2 && digN N 2 (codeN N [X, Y]) 0 == X && digN N 2 (codeN N [X, Y]) 1 == Y) && (List.range (N + 1)).all fun Z => codeN N [X, Y, Z] < (N + 1) ^ 3 && digN N 3 (codeN N [X, Y, Z]) 0 == X && digN N 3 (codeN N [X, Y, Z]) 1 == Y && digN N 3 (codeN N [X, Y, Z]) 2 == Z) = true := by decide +kernel
theorem dig_nat {N : Nat} (hN : 1 ≤ N ∧ N ≤ 3) : ∀ {r : List Nat}, (1 ≤ r.length ∧ r.length ≤ 3) → (∀ x ∈ r, x ≤ N) → codeN N r < (N + 1) ^ r.length ∧ ∀ k, k < r.length → digN N r.length (codeN N r) k = r.getD k 0 := by
  intro r hl hx
  have h := dig_tab
  rw [List.all_eq_true] at h
  have h := h N (by have : N = 1 ∨ N = 2 ∨ N = 3 := by omega
                    rcases this with rfl | rfl | rfl <;> simp)
  rw [List.all_eq_true] at h
  match r, hl with
  | [], hl => simp at hl
  | [X], _ =>
    have h := h X (List.mem_range.2 (by have := hx X (by simp); omega))
    rw [Bool.and_eq_true, Bool.and_eq_true, decide_eq_true_eq, beq_iff_eq] at h
    refine ⟨by simpa using h.1.1, fun k hk => ?_⟩
    have : k = 0 := by simp at hk; omega
    subst this
    exact h.1.2
  | [X, Y], _ =>
    have h := h X (List.mem_range.2 (by have := hx X (by simp); omega))
    rw [Bool.and_eq_true, List.all_eq_true] at h
    have h := h.2 Y (List.mem_range.2 (by have := hx Y (by simp); omega))
    rw [Bool.and_eq_true, Bool.and_eq_true, Bool.and_eq_true, decide_eq_true_eq, beq_iff_eq, beq_iff_eq] at h
    refine ⟨h.1.1.1, fun k hk => ?_⟩
    have : k = 0 ∨ k = 1 := by simp at hk; omega
    rcases this with rfl | rfl
    · exact h.1.1.2
    · exact h.1.2
  | [X, Y, Z], _ =>
    have h := h X (List.mem_range.2 (by have := hx X (by simp); omega))
    rw [Bool.and_eq_true, List.all_eq_true] at h
    have h := h.2 Y (List.mem_range.2 (by have := hx Y (by simp); omega))
    rw [Bool.and_eq_true, List.all_eq_true] at h
    have h := h.2 Z (List.mem_range.2 (by have := hx Z (by simp); omega))
    rw [Bool.and_eq_true, Bool.and_eq_true, Bool.and_eq_true, decide_eq_true_eq, beq_iff_eq, beq_iff_eq, beq_iff_eq] at h
    refine ⟨h.1.1.1, fun k hk => ?_⟩
    have : k = 0 ∨ k = 1 ∨ k = 2 := by simp at hk; omega
    rcases this with rfl | rfl | rfl
    · exact h.1.1.2
    · exact h.1.2
    · exact h.2
  | _ :: _ :: _ :: _ :: _, hl => simp at hl
/-- The number of a row. -/
def codeL (N : Nat) (row : List Int) : Nat := codeN N (natR row)
theorem code_dig {N : Nat} {row : List Int} (h : gameB (N : Int) row = true) : codeL N row < (N + 1) ^ row.length ∧ ∀ k, k < row.length → digN N row.length (codeL N row) k = (row.getD k 0).toNat := by
  obtain ⟨h1, h2, h3⟩ := gameB_of h
  have hd := dig_nat (N := N) (by omega) (r := natR row) (by rw [nat_len]; exact h2) (fun x hx => by
    obtain ⟨k, hk, rfl⟩ := List.mem_iff_getElem.1 hx
    have e := nat_at row k
    rw [List.getD_eq_getElem?_getD, List.getElem?_eq_getElem hk] at e
    rw [nat_len] at hk
    have := h3 k hk
    have e : (natR row)[k] = (row.getD k 0).toNat := e
    rw [e]
    omega)
  rw [nat_len] at hd
  exact ⟨hd.1, fun k hk => by rw [← nat_at]; exact hd.2 k hk⟩
theorem row_code {N : Nat} {row : List Int} (h : gameB (N : Int) row = true) : rowN N row.length (codeL N row) = natR row := by
  refine List.ext_getElem (by simp [rowN, natR]) fun k h1 h2 => ?_
  have hk : k < row.length := by simpa [rowN] using h1
  have a := (code_dig h).2 k hk
  have b := nat_at row k
  rw [List.getD_eq_getElem?_getD, List.getElem?_eq_getElem h2] at b
  simp only [rowN, List.getElem_map, List.getElem_range]
  rw [a]
  exact b.symm
theorem dn_nat {x : Int} (h : 0 ≤ x) : (dn x).toNat = x.toNat - 1 := by unfold dn; split <;> omega
/-- The number of the row after an answer. -/
theorem code_ans {N : Nat} {row : List Int} (h : gameB (N : Int) row = true) (s : Nat) (y : Bool) : codeL N (ansL row s y) = ansN N row.length (codeL N row) s y := by
  obtain ⟨h1, h2, h3⟩ := gameB_of h
  unfold codeL ansN
  congr 1
  refine List.ext_getElem (by simp [natR, ans_len]) fun k q1 q2 => ?_
  have hk : k < row.length := by simpa using q2
  have b := nat_at (ansL row s y) k
  rw [List.getD_eq_getElem?_getD, List.getElem?_eq_getElem q1, ans_at row s y hk] at b
  have a := (code_dig h).2 k hk
  simp only [List.getElem_map, List.getElem_range]
  rw [show codeN N (natR row) = codeL N row from rfl, a]
  have c : (natR (ansL row s y))[k] = (ansK row s y k).toNat := b
  rw [c]
  unfold ansK
  split
  · exact dn_nat (h3 k hk).1
  · rfl
theorem left_code {N : Nat} {row : List Int} (h : gameB (N : Int) row = true) : leftL row = (leftN N row.length (codeL N row) : Int) := by
  obtain ⟨h1, h2, h3⟩ := gameB_of h
  unfold leftN
  rw [row_code h]
  have go : ∀ k, k ≤ row.length → leftK row k = (((natR row).take k).foldl (fun a x => a + min x 1) 0 : Nat) := by
    intro k
    induction k with
    | zero => intro _; simp [leftK]
    | succ k ih =>
      intro hk
      have a := ih (by omega)
      have b := h3 k (by omega)
      have c := nat_at row k
      rw [List.getD_eq_getElem?_getD, List.getElem?_eq_getElem (by rw [nat_len]; omega)] at c
      rw [List.take_succ_eq_append_getElem (by rw [nat_len]; omega), List.foldl_append]
      show leftK row k + (if row.getD k 0 < 1 then row.getD k 0 else 1) = _
      rw [a]
      simp only [List.foldl_cons, List.foldl_nil]
      have c : (natR row)[k]'(by rw [nat_len]; omega) = (row.getD k 0).toNat := c
      rw [c]
      split <;> omega
  have := go row.length (Nat.le_refl _)
  rw [List.take_of_length_le (by rw [nat_len]; omega)] at this
  exact this
theorem w_code {N : Nat} {row : List Int} (h : gameB (N : Int) row = true) (q : Nat) : weightL row q = wN N row.length (codeL N row) q := by
  unfold wN weightL
  rw [row_code h]
  have go : ∀ k, k ≤ row.length → wK row q k = ((natR row).take k).foldl (fun a x => a + wV q x) 0 := by
    intro k
    induction k with
    | zero => intro _; simp [wK]
    | succ k ih =>
      intro hk
      have a := ih (by omega)
      have c := nat_at row k
      rw [List.getD_eq_getElem?_getD, List.getElem?_eq_getElem (by rw [nat_len]; omega)] at c
      rw [List.take_succ_eq_append_getElem (by rw [nat_len]; omega), List.foldl_append]
      show wK row q k + wV q (row.getD k 0).toNat = _
      rw [a]
      simp only [List.foldl_cons, List.foldl_nil]
      have c : (natR row)[k]'(by rw [nat_len]; omega) = (row.getD k 0).toNat := c
      rw [c]
  have := go row.length (Nat.le_refl _)
  rw [List.take_of_length_le (by rw [nat_len]; omega)] at this
  exact this

/-! What the promises say. -/

/-- So many questions are enough. -/
def enB (N : Nat) (row : List Int) (q : Nat) : Bool := svB N row.length q (codeL N row)
def fewL (N : Nat) (row : List Int) : Nat := fewN N row.length (codeL N row)
theorem game_at {N : Nat} {row : List Int} (h : gameB (N : Int) row = true) {p : Nat → Nat → Nat → Bool} (hp : allG p = true) : p N row.length (codeL N row) = true := by
  obtain ⟨h1, h2, _⟩ := gameB_of h
  exact allG_at hp (by omega) h2 (code_dig h).1
theorem en_first {N : Nat} {row : List Int} (h : gameB (N : Int) row = true) : enB N row 0 = decide (leftL row < 2) := by
  have := beq_iff_eq.1 (game_at h sol_first)
  unfold enB
  rw [this, left_code h]
  simp only [decide_eq_decide]
  omega
theorem en_next {N : Nat} {row : List Int} (h : gameB (N : Int) row = true) {q : Nat} (hq : q ≤ 12) : enB N row (q + 1) = (enB N row q || (List.range (2 ^ row.length)).any fun s => enB N (ansL row s true) q && enB N (ansL row s false) q) := by
  have := game_at h sol_next
  rw [List.all_eq_true] at this
  have := beq_iff_eq.1 (this q (List.mem_range.2 (by omega)))
  unfold enB
  rw [this]
  congr 1
  have e : ∀ s y, svB N (ansL row s y).length q (codeL N (ansL row s y)) = svB N row.length q (ansN N row.length (codeL N row) s y) := fun s y => by rw [ans_len, code_ans h]
  simp only [e]
theorem en_more {N : Nat} {row : List Int} (h : gameB (N : Int) row = true) {q : Nat} (hq : q ≤ 12) (he : enB N row q = true) : enB N row (q + 1) = true := by rw [en_next h hq, he]; rfl
theorem en_done {N : Nat} {row : List Int} (h : gameB (N : Int) row = true) : enB N row 12 = true := game_at h sol_done
/-- No fewer questions than the weight tells. -/
theorem en_weight {N : Nat} {row : List Int} (h : gameB (N : Int) row = true) {q : Nat} (hq : q ≤ 12) (he : enB N row q = true) : weightL row q ≤ 2 ^ q := by
  have := game_at h sol_weight
  rw [List.all_eq_true] at this
  have := this q (List.mem_range.2 (by omega))
  unfold enB at he
  rw [he] at this
  rw [w_code h]
  simpa using this
theorem few_is {N : Nat} {row : List Int} (h : gameB (N : Int) row = true) : enB N row (fewL N row) = true ∧ fewL N row ≤ 12 ∧ ∀ q, q < fewL N row → enB N row q = false := by
  unfold fewL fewN
  cases hf : (List.range 13).find? fun q => svB N row.length q (codeL N row) with
  | none =>
    have := List.find?_eq_none.1 hf 12 (by simp)
    exact absurd (en_done h) this
  | some q =>
    simp only [Option.getD_some]
    have h1 := List.find?_some hf
    obtain ⟨_, pre, bs, e, hall⟩ := List.find?_eq_some_iff_append.1 hf
    have hm : q ∈ List.range 13 := by rw [e]; simp
    refine ⟨h1, by have := List.mem_range.1 hm; omega, fun q' hq' => ?_⟩
    have hlen : pre.length = q := by
      have h2 : (List.range 13)[pre.length]? = some q := by rw [e]; simp
      rw [List.getElem?_eq_some_iff] at h2
      obtain ⟨_, h2⟩ := h2
      simpa using h2
    have hq2 : q' ∈ pre := by
      have h3 : (List.range 13)[q']? = pre[q']? := by rw [e, List.getElem?_append_left (by omega)]
      rw [List.getElem?_eq_getElem (l := pre) (by omega), List.getElem?_eq_some_iff] at h3
      obtain ⟨_, h3⟩ := h3
      have h4 : q' = pre[q'] := by simpa using h3
      rw [h4]
      exact List.getElem_mem _
    have := hall q' hq2
    unfold enB
    simpa using this
theorem few_end {row : List Int} (h : gameB ((1 : Nat) : Int) row = true) : fewL 1 row = [0, 0, 1, 2].getD (leftL row).toNat 0 := by
  have := game_at h few_half
  have e : (leftL row).toNat = leftN 1 row.length (codeL 1 row) := by rw [left_code h]; rfl
  rw [e]
  simpa [fewL] using this
theorem few_pair {N : Nat} (hN : 1 ≤ N ∧ N ≤ 3) : fewL N [(N : Int), (N : Int)] = 2 * N - 1 := by
  have h := few_two
  rw [List.all_eq_true] at h
  exact beq_iff_eq.1 (h N (by have : N = 1 ∨ N = 2 ∨ N = 3 := by omega
                              rcases this with rfl | rfl | rfl <;> simp))
/-- The first set after which one question fewer is enough. -/
def bestL (N : Nat) (row : List Int) : Nat := bestN N row.length (codeL N row)
theorem best_is {N : Nat} {row : List Int} (h : gameB (N : Int) row = true) (h0 : fewL N row ≠ 0) : bestL N row < 2 ^ row.length ∧ max (fewL N (ansL row (bestL N row) true)) (fewL N (ansL row (bestL N row) false)) = fewL N row - 1 := by
  have := game_at h best_one
  unfold fewL at h0
  rw [Bool.or_eq_true, beq_iff_eq, Bool.and_eq_true, decide_eq_true_eq, beq_iff_eq] at this
  rcases this with e | ⟨a, b⟩
  · exact absurd e h0
  · refine ⟨a, ?_⟩
    unfold fewL
    rw [ans_len, ans_len, code_ans h, code_ans h]
    exact b

end Go.Proofs.Ythfikgaghinfbaa
