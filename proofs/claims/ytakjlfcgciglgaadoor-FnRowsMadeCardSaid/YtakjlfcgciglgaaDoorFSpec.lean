/-
  The model's l4End and FormulaOk: where a formula ends is where the plain parser ends. Texts of any length.
-/
import Derived.Test.YtakjlfcgciglgaaDoorFRead
namespace Go.Proofs.YtakjlfcgciglgaaDoor
open Go.RowKit

theorem drop_lt {l : List UInt8} {p : Nat} {c : UInt8} {r : List UInt8} (h : l.drop p = c :: r) : p < l.length := by
  have e := congrArg List.length h
  rw [List.length_drop] at e
  simp at e; omega
theorem drop_tail {l : List UInt8} {p : Nat} {c : UInt8} {r : List UInt8} (h : l.drop p = c :: r) : l.drop (p + 1) = r := by
  rw [← List.drop_drop, h]
  rfl
/-- What is left behind a formula, as a place of the text. -/
theorem drop_rest {l a r : List UInt8} {p m : Nat} (h : l.drop p = a ++ r) (hm : m + r.length = l.length) (hp : p ≤ l.length) : l.drop m = r := by
  have e := congrArg List.length h
  rw [List.length_drop, List.length_append] at e
  have hq : m = a.length + p := by omega
  rw [hq, Nat.add_comm, ← List.drop_drop, h]
  simp

theorem idx_run {s : ByteArray} {p : Nat} {c : UInt8} {r : List UInt8} (h : (bl s).drop p = c :: r) (w : World) :
    (Instr.index 9 (.string s) (.int .i64 (p : Int))).run Tryd.prog w = .ok (.int .u8 (c.toNat : Int)) w := by
  have hlt : p < s.size := by rw [bl_size]; exact drop_lt h
  rw [run_index_string (h := Tryd.underlying9), dif_pos ⟨by omega, by omega⟩]
  have hq : s[(p : Int).toNat]'(by omega) = c := by
    have e : s.data.toList[p]? = some c := by
      have := congrArg (fun x => x[0]?) h
      unfold bl at this
      simpa [List.getElem?_drop] using this
    simp only [Int.toNat_natCast]
    rw [List.getElem?_eq_getElem (by rw [← Lib.size_eq]; exact hlt)] at e
    exact Option.some.inj e
  rw [hq]

theorem u8_ne {c d : UInt8} (h : c ≠ d) {n : Int} (hn : (d.toNat : Int) = n) : ((c.toNat : Int) == n) = false := by
  rw [← hn]
  simp only [beq_eq_false_iff_ne, ne_eq, Int.natCast_inj]
  intro e
  exact h (UInt8.toNat_inj.1 e)

theorem u8_neq {c d : UInt8} (h : c ≠ d) {n : Int} (hn : (d.toNat : Int) = n) : ((c.toNat : Int) != n) = true := by
  unfold bne; rw [u8_ne h hn]; rfl

theorem sgOf_none {d : UInt8} (h : sgOf d = none) : d ≠ 62 ∧ d ≠ 43 ∧ d ≠ 42 ∧ d ≠ 38 ∧ d ≠ 124 := by
  refine ⟨?_, ?_, ?_, ?_, ?_⟩ <;> (rintro rfl; cases h)

/-- Where a sign stands behind a first formula: its place. -/
theorem sign_place {s : ByteArray} {p k : Nat} {l : List UInt8} (h : (bl s).drop p = 40 :: l) {x : Tr} {r : List UInt8} (ho : prs k l = some (x, r)) :
    ∃ m : Nat, m + r.length = s.size ∧ (bl s).drop m = r ∧ p + 1 < m := by
  have hlt := drop_lt h
  have ht := drop_tail h
  have hx := prs_sound _ _ _ _ ho
  have hp := txt_pos x
  have e : (bl s).length - (p + 1) = x.txt.length + r.length := by rw [← List.length_drop, ht, hx, List.length_append]
  have hz := bl_size s
  refine ⟨s.size - r.length, by omega, ?_, by omega⟩
  exact drop_rest (p := p + 1) (ht.trans hx) (by omega) (by omega)

theorem close_place {s : ByteArray} {m k : Nat} {d : UInt8} {r : List UInt8} (h : (bl s).drop m = d :: r) {y : Tr} {q : List UInt8} (ho : prs k r = some (y, q)) :
    ∃ n : Nat, n + q.length = s.size ∧ (bl s).drop n = q ∧ m + 1 < n := by
  have hlt := drop_lt h
  have ht := drop_tail h
  have hx := prs_sound _ _ _ _ ho
  have hp := txt_pos y
  have e : (bl s).length - (m + 1) = y.txt.length + q.length := by rw [← List.length_drop, ht, hx, List.length_append]
  have hz := bl_size s
  refine ⟨s.size - q.length, by omega, ?_, by omega⟩
  exact drop_rest (p := m + 1) (ht.trans hx) (by omega) (by omega)

end Go.Proofs.YtakjlfcgciglgaaDoor
