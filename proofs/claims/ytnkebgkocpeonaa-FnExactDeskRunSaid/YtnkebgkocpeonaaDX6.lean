/-
  A row of pairs in the call's own memory, marked.
-/
import Derived.Test.YtnkebgkocpeonaaDX5
namespace Go.Proofs.Ytnkebgkocpeonaa
open Go.RowKit

/-- The pairs that the laws write into a row, from the mark k on. -/
def mkP (k : Nat) (i : Nat) : Ld := (((k + 2 * i : Nat) : Int), mtx (k + 2 * i + 1))
def mkRow (k n : Nat) : List Ld := (List.range n).map (mkP k)
theorem mkRow_len (k n : Nat) : (mkRow k n).length = n := by simp [mkRow]
theorem mkRow_at (k n i : Nat) (h : i < n) : (mkRow k n).getD i nilLd = mkP k i := by simp [mkRow, List.getD_eq_getElem?_getD, h]
/-- The row while it is marked: the first i are. -/
def MkCur (cur : Array Value) (off k n i : Nat) : Prop :=
  (∀ j, j < i → cur[off + j * 2]? = some (.int .i64 (mkP k j).1) ∧ cur[off + j * 2 + 1]? = some (.string (bs (mkP k j).2))) ∧ ∀ j, i ≤ j → j < n → ∃ u v, cur[off + j * 2]? = some u ∧ cur[off + j * 2 + 1]? = some v
theorem MkCur.next {cur : Array Value} {off k n i : Nat} (h : MkCur cur off k n i) (hi : i < n) : MkCur ((cur.setIfInBounds (off + i * 2) (.int .i64 (mkP k i).1)).setIfInBounds (off + i * 2 + 1) (.string (bs (mkP k i).2))) off k n (i + 1) := by
  obtain ⟨u, v, hu, hv⟩ := h.2 i (Nat.le_refl _) hi
  have su := (Array.getElem?_eq_some_iff.1 hu).1
  have sv := (Array.getElem?_eq_some_iff.1 hv).1
  refine ⟨fun j hj => ?_, fun j hj hn => ?_⟩
  · by_cases e : j = i
    · subst e
      refine ⟨?_, ?_⟩
      · rw [Array.getElem?_setIfInBounds_ne (by omega), Array.getElem?_setIfInBounds_self_of_lt su]
      · rw [Array.getElem?_setIfInBounds_self_of_lt (by simpa using sv)]
    · have := h.1 j (by omega)
      refine ⟨?_, ?_⟩
      · rw [Array.getElem?_setIfInBounds_ne (by omega), Array.getElem?_setIfInBounds_ne (by omega)]; exact this.1
      · rw [Array.getElem?_setIfInBounds_ne (by omega), Array.getElem?_setIfInBounds_ne (by omega)]; exact this.2
  · obtain ⟨x, y, h1, h2⟩ := h.2 j (by omega) hn
    refine ⟨x, y, ?_, ?_⟩
    · rw [Array.getElem?_setIfInBounds_ne (by omega), Array.getElem?_setIfInBounds_ne (by omega)]; exact h1
    · rw [Array.getElem?_setIfInBounds_ne (by omega), Array.getElem?_setIfInBounds_ne (by omega)]; exact h2

def MkRelD (k n g off : Nat) (w : World) (kv iv : Value) (wr : World) : Prop :=
  ∃ (i : Nat) (cur : Array Value), i ≤ n ∧ kv = .int .i64 ((k + 2 * i : Nat) : Int) ∧ iv = .int .i64 i ∧ wr.heap[g]? = some (.cells cur 24 (0, 0)) ∧ MkCur cur off k n i ∧ w.grownBy wr (some g)
theorem heap_put {W : World} {g j : Nat} {cur : Array Value} {v : Value} (h : W.heap[g]? = some (.cells cur 24 (0, 0))) : (W.setCell ⟨g, j, none⟩ v).heap[g]? = some (.cells (cur.setIfInBounds j v) 24 (0, 0)) := CellsAt.set (T := 24) h j v

theorem grown_any {a b : World} {row : Option Nat} (h : a.grownBy b none) : a.grownBy b row := ⟨h.os, h.tape, h.output, h.size, fun k hk _ => h.block k hk (by simp)⟩

set_option maxRecDepth 8000 in
set_option maxHeartbeats 2000000 in
theorem markLds_any (k n g off cap : Nat) (cur0 : Array Value) (hk : 0 < k ∧ k ≤ 10000000) (hn : n ≤ 10000000) (w : World) (hg : w.heap[g]? = some (.cells cur0 24 (0, 0))) (hm : MkCur cur0 off k n 0) :
    Calls Try.prog 74 #[.slice (some ⟨g, off, none⟩) n cap, .int .i64 k] w fun e w' => ∃ cur, e = .returned (.int .i64 ((k + 2 * n : Nat) : Int)) ∧ w'.heap[g]? = some (.cells cur 24 (0, 0)) ∧ MkCur cur off k n n ∧ w.grownBy w' (some g) := by
  have HG := Lib.hid hg
  have HM := Lib.hid hm
  clear hg hm
  go_enter Try.func74, Try.ntmps74
  go_wp2
  go_loopw [1, 5] (fun kv iv wr => MkRelD k n g off w kv iv wr) (fun _ iv _ => n - (intOf iv).toNat)
  case atStart => exact ⟨0, cur0, by omega, by simp, rfl, HG.out, HM.out, grownBy_refl _ _⟩
  case round =>
    obtain ⟨i, cur, hi, rfl, rfl, hh, hc, hgr⟩ := hrel
    by_cases hlt : i < n
    · obtain ⟨u, v, hu, hv⟩ := hc.2 i (Nat.le_refl _) hlt
      have c0 : wr.cell? ⟨g, off + i * 2, none⟩ = some u := by rw [cell_of_row wr g _ cur _ (0, 0) hh]; exact hu
      have f0 : wr.frozen? ⟨g, off + i * 2, none⟩ = false := frozen_of_row wr g _ cur _ hh
      have hnx := Lib.hid (hc.next hlt)
      obtain ⟨K, hK⟩ : ∃ K, K = k + 2 * i := ⟨_, rfl⟩
      have hp : Hid (mkP k i = ((K : Int), mtx (K + 1))) := by rw [hK]; rfl
      have hKs : 0 < K ∧ K ≤ 100000000 - 1 := by omega
      have cm : ∀ w, Calls Try.prog 77 #[.int .i64 ((K : Int) + 1)] w fun e w' => e = .returned (.string (bs (mtx (K + 1)))) ∧ w.grownBy w' none := fun w => markText_any (K + 1) (by omega) (by omega) w
      have h1 := Lib.hid (heap_put (j := off + i * 2) (v := .int .i64 (K : Int)) hh)
      have hv1 : (cur.setIfInBounds (off + i * 2) (.int .i64 (K : Int)))[off + i * 2 + 1]? = some v := by rw [Array.getElem?_setIfInBounds_ne (by omega)]; exact hv
      have HV1 := Lib.hid hv1
      have G1 := Lib.hid (grownBy_trans hgr (grownBy_set wr g (off + i * 2) (.int .i64 (K : Int))))
      rw [← hK]
      have HK := Lib.hid hK
      clear hh hc hgr hu hv hv1 hK
      go_wp2_with (first | (go_at_call 77; refine (cm _).mono ?_; rintro e w2 ⟨rfl, hg2⟩; have h2 : w2.heap[g]? = _ := (hg2.block g (Array.getElem?_eq_some_iff.1 h1.out).1 (by simp)).trans h1.out; have c1 : w2.cell? ⟨g, off + i * 2 + 1, none⟩ = some v := (by rw [cell_of_row w2 g _ _ _ (0, 0) h2]; exact HV1.out); have f1 : w2.frozen? ⟨g, off + i * 2 + 1, none⟩ = false := frozen_of_row w2 g _ _ _ h2; have h3 := Lib.hid (heap_put (j := off + i * 2 + 1) (v := .string (bs (mtx (K + 1)))) h2); have G3 := Lib.hid (grownBy_trans G1.out (grownBy_trans (grown_any hg2) (grownBy_set w2 g (off + i * 2 + 1) (.string (bs (mtx (K + 1))))))); clear h2 hg2))
      go_roundw
      case rel =>
        have e : ((K : Int) + 1 + 1) = ((k + 2 * (i + 1) : Nat) : Int) := by have := HK.out; omega
        refine ⟨i + 1, _, by omega, by rw [← e], by go_num, h3.out, ?_, G3.out⟩
        have q := hnx.out
        rw [hp.out] at q
        exact q
      case measure => simp [intOf]; omega
    · obtain rfl : i = n := by omega
      have R := Lib.hid (show ∃ cur, wr.heap[g]? = some (.cells cur 24 (0, 0)) ∧ MkCur cur off k i i ∧ w.grownBy wr (some g) from ⟨cur, hh, hc, hgr⟩)
      clear hh hc hgr
      go_wp2
      go_ret
      obtain ⟨cur, h1, h2, h3⟩ := R.out
      exact ⟨cur, rfl, h1, h2, h3⟩

end Go.Proofs.Ytnkebgkocpeonaa
