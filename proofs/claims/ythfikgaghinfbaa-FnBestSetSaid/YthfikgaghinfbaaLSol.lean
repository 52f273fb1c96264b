/-
  impl's solvedRows: the two function literals that it hands to the one that fills, and the list.
-/
import Derived.Test.YthfikgaghinfbaaLFil
namespace Go.Proofs.Ythfikgaghinfbaa
open Go.RowKit

theorem s2_any (N L c : Nat) (hN : 1 ≤ N ∧ N ≤ 3) (hL : 1 ≤ L ∧ L ≤ 3) (hc : c < pw N L) (a : Option Addr) (cap B : Nat) (w : World) (h : IntsAt w a (rowZ N L c)) (hB : w.cell? ⟨B, 0, none⟩ = some (.int .i64 N)) :
    Calls Try.prog 75 #[.slice a L cap, .pointer (some ⟨B, 0, none⟩)] w fun e w' => e = .returned (.bool (svB N L 0 c)) ∧ w.grownBy w' none := by
  have cl := ileft_any N a cap (rowZ N L c) w h
  have hg := rowZ_game (c := c) hN hL
  have he := en_first hg
  unfold enB at he
  rw [rowZ_len, rowZ_code hN hL hc] at he
  rw [leftW_t hg, rowZ_len] at cl
  rw [he]
  clear h hg he hc
  generalize leftL (rowZ N L c) = l at *
  by_cases h1 : l ≤ 1
  · have e : Hid (decide (l < 2) = true) := decide_eq_true (by omega)
    have e2 : decide (l ≤ 1) = true := decide_eq_true h1
    go_enter Try.func75, Try.ntmps75
    go_wp2_with fail
    refine cl.mono ?_
    rintro e w1 ⟨rfl, g1⟩
    clear cl
    go_wp2_with fail
    go_ret
    exact ⟨by rw [e.out]; rfl, g1⟩
  · have e : Hid (decide (l < 2) = false) := decide_eq_false (by omega)
    have e2 : decide (l ≤ 1) = false := decide_eq_false h1
    go_enter Try.func75, Try.ntmps75
    go_wp2_with fail
    refine cl.mono ?_
    rintro e w1 ⟨rfl, g1⟩
    clear cl
    go_wp2_with fail
    go_ret
    exact ⟨by rw [e.out]; rfl, g1⟩

set_option maxHeartbeats 1000000 in
theorem s3_any (N L q c : Nat) (hN : 1 ≤ N ∧ N ≤ 3) (hL : 1 ≤ L ∧ L ≤ 3) (hc : c < pw N L) (hq : q ≤ 12) (a : Option Addr) (cap E Bk Bs b o c0 : Nat) (w : World) (h : IntsAt w a (rowZ N L c)) (hE : w.cell? ⟨E, 0, none⟩ = some (.func (.func 77) #[] #[.pointer (some ⟨Bk, 0, none⟩), .pointer (some ⟨Bs, 0, none⟩)])) (hk : KeptAt w Bk Bs N b o c0 (pw N L) (svB N L q)) :
    Calls Try.prog 76 #[.slice a L cap, .pointer (some ⟨E, 0, none⟩)] w fun e w' => e = .returned (.bool (svB N L (q + 1) c)) ∧ w.grownBy w' none := by
  have hg := rowZ_game (c := c) hN hL
  have hcode := rowZ_code hN hL hc
  have ct := tk1_any N a cap (rowZ N L c) Bk Bs b o c0 (pw N L) (svB N L q) w h hg (by rw [rowZ_len]) hk
  rw [rowZ_len, hcode] at ct
  obtain ⟨M, fnd, hM, hf⟩ := first_is N L q c
  have cs := fun w1 (g : w.grownBy w1 none) => isetfor_any N q a cap (rowZ N L c) Bk Bs b o c0 M fnd w1 (h.grown g) hg (by rw [rowZ_len]; exact hk.grown g) (by rw [rowZ_len, hcode]; exact hM)
  rw [rowZ_len] at cs
  have hnx : svB N L (q + 1) c = (svB N L q c || fnd) := by
    rw [any_all hN hL hc hq, hf]
    rfl
  have hE2 := fun w1 (g : w.grownBy w1 none) => g.cell hE (by simp)
  rw [hnx]
  clear h hg hcode hM hf hnx hk
  generalize svB N L q c = bq at *
  generalize sfV M fnd = V at *
  cases bq
  · go_enter Try.func76, Try.ntmps76
    go_wp2_with fail
    refine ct.mono ?_
    rintro e w1 ⟨rfl, g1⟩
    clear ct
    have n1 := hE2 _ g1
    have cs := cs _ g1
    clear hE2
    go_wp2_with fail
    refine cs.mono ?_
    rintro e w2 ⟨rfl, g2⟩
    clear cs
    go_wp2_with fail
    go_ret
    exact ⟨by rw [Bool.false_or]; rfl, grownBy_trans g1 g2⟩
  · go_enter Try.func76, Try.ntmps76
    go_wp2_with fail
    refine ct.mono ?_
    rintro e w1 ⟨rfl, g1⟩
    clear ct cs hE2
    go_wp2_with fail
    go_ret
    exact ⟨by rw [Bool.true_or]; rfl, g1⟩

end Go.Proofs.Ythfikgaghinfbaa
