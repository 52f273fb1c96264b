/-
  The model's l11Row.
-/
import Derived.Test.YthfikgaghinfbaaLSpec3
namespace Go.Proofs.Ythfikgaghinfbaa
open Go.RowKit

/-- The row with a number. -/
def rowZ (N L c : Nat) : List Int := (List.range L).map fun k => ((digN N L c k : Nat) : Int)
theorem rowZ_len (N L c : Nat) : (rowZ N L c).length = L := by simp [rowZ]
theorem rowZ_at (N L c : Nat) {k : Nat} (hk : k < L) : (rowZ N L c).getD k 0 = ((digN N L c k : Nat) : Int) := by
  unfold rowZ
  rw [List.getD_eq_getElem?_getD, List.getElem?_map, List.getElem?_range hk]
  rfl
theorem dig_left (N L c S : Nat) (hS : S < L) : digN N L c S = c / (N + 1) ^ (L - (S + 1)) % (N + 1) := by
  unfold digN
  rw [show L - 1 - S = L - (S + 1) by omega]
theorem left_next (N L c S : Nat) (hS : S < L) : c / (N + 1) ^ (L - S) = c / (N + 1) ^ (L - (S + 1)) / (N + 1) := by
  rw [Nat.div_div_eq_div_mul, ← Nat.pow_succ, show (L - (S + 1)).succ = L - S by omega]
theorem own_row {g : Nat} {zs : List Int} {w wr : World} {vs : List Value} (hm : zs.length ≤ maxLen) (h : wr.ownsRow w.heap.size 3 1 (.slice (some ⟨g, 0, none⟩) zs.length zs.length) zs.length vs) (hx : ∀ j, j < zs.length → vs[j]? = some (.int .i64 (zs.getD j 0))) : IntsAt wr (some ⟨g, 0, none⟩) zs := by
  refine ⟨hm, ?_⟩
  by_cases h0 : zs.length = 0
  · exact .inl (List.length_eq_zero_iff.1 h0)
  · have c0 := World.ownsRow.cellAt h 0 (by omega)
    rw [hx 0 (by omega)] at c0
    refine .inr ⟨g, 0, rfl, World.block_lt_of_cell? wr _ c0, fun i hi => ?_⟩
    have hc := World.ownsRow.cellAt h i (by omega)
    rw [Nat.zero_add, hc, hx i hi]
def RowDn (N L c : Nat) (w : World) (v i : Value) (wr : World) : Prop :=
  ∃ (R : Nat) (vs : List Value), R ≤ L ∧ v = .int .i64 (c / (N + 1) ^ (L - R) : Nat) ∧ i = .int .i64 ((R : Int) - 1) ∧ wr.ownsRow w.heap.size 3 1 (.slice (some ⟨w.heap.size, 0, none⟩) L L) L vs ∧ (∀ k, k < L → R ≤ k → vs[k]? = some (.int .i64 (digN N L c k : Nat))) ∧ w.grownBy wr none
def RowPost (N L c : Nat) (w : World) (e : Ending) (w' : World) : Prop := ∃ a cap, e = .returned (.slice a L cap) ∧ IntsAt w' a (rowZ N L c) ∧ w.grownBy w' none

set_option maxHeartbeats 2000000 in
theorem slrow_any (N L c : Nat) (hN : 1 ≤ N ∧ N ≤ 3) (hL : 1 ≤ L ∧ L ≤ 3) (hc : c ≤ 1000) (w : World) :
    Calls Try.prog 79 #[.int .i64 N, .int .i64 c, .int .i64 L] w (RowPost N L c w) := by
  obtain ⟨i0, hi, hz0, hz1, hz2⟩ := info_parts infoInt
  have hN : N = 1 ∨ N = 2 ∨ N = 3 := by omega
  have l1 : (1 : Int) ≤ (L : Int) := by omega
  have l3 : (L : Int) ≤ 3 := by omega
  rcases hN with rfl | rfl | rfl
  · go_enter Try.func79, Try.ntmps79
    go_wp2_with (at_make; refine wpList_make_full _ rfl _ _ 23 rfl w.heap.size 3 i0 (.int .i64 0) 1 Try.underlying23 hi hz0 hz1 .i64 .i64 _ _ L rfl rfl rfl rfl ?b2p ?b3p (Nat.le_refl _) ?_)
    case b2p => rw [hz2]; omega
    case b3p => unfold maxLen; omega
    intro w0 hown0 hgrow0
    have HO := Lib.hid hown0
    have HG := Lib.hid hgrow0
    clear hown0 hgrow0
    go_wp2_with fail
    go_loopw [8, 9] (fun v i wr => RowDn 1 L c w v i wr) (fun _ i _ => (intOf i + 1).toNat)
    case atStart => exact ⟨L, _, by omega, by simp, rfl, HO.out, fun k h1 h2 => absurd h1 (by omega), HG.out⟩
    case round =>
      obtain ⟨R, vs, hR, rfl, rfl, hown, hxs, hgr⟩ := hrel
      cases R with
      | zero =>
        have hs := Lib.hid (own_row (zs := rowZ 1 L c) (w := w) (wr := wr) (vs := vs) (g := w.heap.size) (by rw [rowZ_len]; unfold maxLen; omega) (by rw [rowZ_len]; exact hown) (fun j hj => by rw [rowZ_len] at hj; rw [rowZ_at _ _ _ hj]; exact hxs j hj (by omega)))
        have Hg := Lib.hid hgr
        clear hown hxs hgr
        go_wp2_with fail
        go_ret
        exact ⟨_, _, rfl, hs.out, Hg.out⟩
      | succ S =>
        have e1 : ((S + 1 : Nat) : Int) - 1 = (S : Int) := by omega
        rw [e1]
        have s0 : (0 : Int) ≤ (S : Int) := by omega
        have sL : (S : Int) < (L : Int) := by omega
        have hfr := World.ownsRow.frozenAt hown S
        have hce := World.ownsRow.cellAt hown S (by omega)
        have hxl := hown.1
        rw [List.getElem?_eq_getElem (by omega)] at hce
        obtain ⟨u, hce⟩ : ∃ u, wr.cell? ⟨w.heap.size, S, none⟩ = some u := ⟨_, hce⟩
        have hdg := dig_left 1 L c S (by omega)
        have hln := Lib.hid (left_next 1 L c S (by omega))
        have hst := Lib.hid (World.ownsRow.stored hown S (.int .i64 (digN 1 L c S : Nat)))
        have hg2 := Lib.hid (grownBy_row hgr hown (Nat.le_refl _) hst.out.2)
        have hxs2 : Hid (∀ k, k < L → S ≤ k → (vs.set S (.int .i64 (digN 1 L c S : Nat)))[k]? = some (.int .i64 (digN 1 L c k : Nat))) := fun k h1 h2 => by
          by_cases e : k = S
          · subst e; rw [List.getElem?_set_self (by omega)]
          · rw [List.getElem?_set_ne (by omega)]; exact hxs k h1 (by omega)
        have hD : c / (1 + 1) ^ (L - (S + 1)) ≤ 1000 := Nat.le_trans (Nat.div_le_self _ _) hc
        clear hown hgr hxs
        generalize digN 1 L c S = G at *
        generalize c / (1 + 1) ^ (L - (S + 1)) = D at *
        have t1 : (D : Int).tmod 2 = (G : Int) := by rw [Int.tmod_eq_emod_of_nonneg (by omega)]; omega
        have t2 : (D : Int).tdiv 2 = ((D / 2 : Nat) : Int) := by rw [Int.tdiv_eq_ediv_of_nonneg (by omega)]; omega
        have t3 : (D : Int) % 2 = (G : Int) := by omega
        have t5 : ((D / 2 : Nat) : Int) ≤ 1000 := by omega
        have hln2 : Hid (c / (1 + 1) ^ (L - S) = D / 2) := hln
        clear hln hdg hD
        generalize D / 2 = E at *
        go_wp2_with fail
        go_roundw
        case rel => exact ⟨S, _, by omega, by rw [hln2.out], rfl, hst.out.1, hxs2.out, hg2.out⟩
        case measure => simp [intOf]
  · go_enter Try.func79, Try.ntmps79
    go_wp2_with (at_make; refine wpList_make_full _ rfl _ _ 23 rfl w.heap.size 3 i0 (.int .i64 0) 1 Try.underlying23 hi hz0 hz1 .i64 .i64 _ _ L rfl rfl rfl rfl ?b2q ?b3q (Nat.le_refl _) ?_)
    case b2q => rw [hz2]; omega
    case b3q => unfold maxLen; omega
    intro w0 hown0 hgrow0
    have HO := Lib.hid hown0
    have HG := Lib.hid hgrow0
    clear hown0 hgrow0
    go_wp2_with fail
    go_loopw [8, 9] (fun v i wr => RowDn 2 L c w v i wr) (fun _ i _ => (intOf i + 1).toNat)
    case atStart => exact ⟨L, _, by omega, by simp, rfl, HO.out, fun k h1 h2 => absurd h1 (by omega), HG.out⟩
    case round =>
      obtain ⟨R, vs, hR, rfl, rfl, hown, hxs, hgr⟩ := hrel
      cases R with
      | zero =>
        have hs := Lib.hid (own_row (zs := rowZ 2 L c) (w := w) (wr := wr) (vs := vs) (g := w.heap.size) (by rw [rowZ_len]; unfold maxLen; omega) (by rw [rowZ_len]; exact hown) (fun j hj => by rw [rowZ_len] at hj; rw [rowZ_at _ _ _ hj]; exact hxs j hj (by omega)))
        have Hg := Lib.hid hgr
        clear hown hxs hgr
        go_wp2_with fail
        go_ret
        exact ⟨_, _, rfl, hs.out, Hg.out⟩
      | succ S =>
        have e1 : ((S + 1 : Nat) : Int) - 1 = (S : Int) := by omega
        rw [e1]
        have s0 : (0 : Int) ≤ (S : Int) := by omega
        have sL : (S : Int) < (L : Int) := by omega
        have hfr := World.ownsRow.frozenAt hown S
        have hce := World.ownsRow.cellAt hown S (by omega)
        have hxl := hown.1
        rw [List.getElem?_eq_getElem (by omega)] at hce
        obtain ⟨u, hce⟩ : ∃ u, wr.cell? ⟨w.heap.size, S, none⟩ = some u := ⟨_, hce⟩
        have hdg := dig_left 2 L c S (by omega)
        have hln := Lib.hid (left_next 2 L c S (by omega))
        have hst := Lib.hid (World.ownsRow.stored hown S (.int .i64 (digN 2 L c S : Nat)))
        have hg2 := Lib.hid (grownBy_row hgr hown (Nat.le_refl _) hst.out.2)
        have hxs2 : Hid (∀ k, k < L → S ≤ k → (vs.set S (.int .i64 (digN 2 L c S : Nat)))[k]? = some (.int .i64 (digN 2 L c k : Nat))) := fun k h1 h2 => by
          by_cases e : k = S
          · subst e; rw [List.getElem?_set_self (by omega)]
          · rw [List.getElem?_set_ne (by omega)]; exact hxs k h1 (by omega)
        have hD : c / (2 + 1) ^ (L - (S + 1)) ≤ 1000 := Nat.le_trans (Nat.div_le_self _ _) hc
        clear hown hgr hxs
        generalize digN 2 L c S = G at *
        generalize c / (2 + 1) ^ (L - (S + 1)) = D at *
        have t1 : (D : Int).tmod 3 = (G : Int) := by rw [Int.tmod_eq_emod_of_nonneg (by omega)]; omega
        have t2 : (D : Int).tdiv 3 = ((D / 3 : Nat) : Int) := by rw [Int.tdiv_eq_ediv_of_nonneg (by omega)]; omega
        have t3 : (D : Int) % 3 = (G : Int) := by omega
        have t5 : ((D / 3 : Nat) : Int) ≤ 1000 := by omega
        have hln2 : Hid (c / (2 + 1) ^ (L - S) = D / 3) := hln
        clear hln hdg hD
        generalize D / 3 = E at *
        go_wp2_with fail
        go_roundw
        case rel => exact ⟨S, _, by omega, by rw [hln2.out], rfl, hst.out.1, hxs2.out, hg2.out⟩
        case measure => simp [intOf]
  · go_enter Try.func79, Try.ntmps79
    go_wp2_with (at_make; refine wpList_make_full _ rfl _ _ 23 rfl w.heap.size 3 i0 (.int .i64 0) 1 Try.underlying23 hi hz0 hz1 .i64 .i64 _ _ L rfl rfl rfl rfl ?b2r ?b3r (Nat.le_refl _) ?_)
    case b2r => rw [hz2]; omega
    case b3r => unfold maxLen; omega
    intro w0 hown0 hgrow0
    have HO := Lib.hid hown0
    have HG := Lib.hid hgrow0
    clear hown0 hgrow0
    go_wp2_with fail
    go_loopw [8, 9] (fun v i wr => RowDn 3 L c w v i wr) (fun _ i _ => (intOf i + 1).toNat)
    case atStart => exact ⟨L, _, by omega, by simp, rfl, HO.out, fun k h1 h2 => absurd h1 (by omega), HG.out⟩
    case round =>
      obtain ⟨R, vs, hR, rfl, rfl, hown, hxs, hgr⟩ := hrel
      cases R with
      | zero =>
        have hs := Lib.hid (own_row (zs := rowZ 3 L c) (w := w) (wr := wr) (vs := vs) (g := w.heap.size) (by rw [rowZ_len]; unfold maxLen; omega) (by rw [rowZ_len]; exact hown) (fun j hj => by rw [rowZ_len] at hj; rw [rowZ_at _ _ _ hj]; exact hxs j hj (by omega)))
        have Hg := Lib.hid hgr
        clear hown hxs hgr
        go_wp2_with fail
        go_ret
        exact ⟨_, _, rfl, hs.out, Hg.out⟩
      | succ S =>
        have e1 : ((S + 1 : Nat) : Int) - 1 = (S : Int) := by omega
        rw [e1]
        have s0 : (0 : Int) ≤ (S : Int) := by omega
        have sL : (S : Int) < (L : Int) := by omega
        have hfr := World.ownsRow.frozenAt hown S
        have hce := World.ownsRow.cellAt hown S (by omega)
        have hxl := hown.1
        rw [List.getElem?_eq_getElem (by omega)] at hce
        obtain ⟨u, hce⟩ : ∃ u, wr.cell? ⟨w.heap.size, S, none⟩ = some u := ⟨_, hce⟩
        have hdg := dig_left 3 L c S (by omega)
        have hln := Lib.hid (left_next 3 L c S (by omega))
        have hst := Lib.hid (World.ownsRow.stored hown S (.int .i64 (digN 3 L c S : Nat)))
        have hg2 := Lib.hid (grownBy_row hgr hown (Nat.le_refl _) hst.out.2)
        have hxs2 : Hid (∀ k, k < L → S ≤ k → (vs.set S (.int .i64 (digN 3 L c S : Nat)))[k]? = some (.int .i64 (digN 3 L c k : Nat))) := fun k h1 h2 => by
          by_cases e : k = S
          · subst e; rw [List.getElem?_set_self (by omega)]
          · rw [List.getElem?_set_ne (by omega)]; exact hxs k h1 (by omega)
        have hD : c / (3 + 1) ^ (L - (S + 1)) ≤ 1000 := Nat.le_trans (Nat.div_le_self _ _) hc
        clear hown hgr hxs
        generalize digN 3 L c S = G at *
        generalize c / (3 + 1) ^ (L - (S + 1)) = D at *
        have t1 : (D : Int).tmod 4 = (G : Int) := by rw [Int.tmod_eq_emod_of_nonneg (by omega)]; omega
        have t2 : (D : Int).tdiv 4 = ((D / 4 : Nat) : Int) := by rw [Int.tdiv_eq_ediv_of_nonneg (by omega)]; omega
        have t3 : (D : Int) % 4 = (G : Int) := by omega
        have t5 : ((D / 4 : Nat) : Int) ≤ 1000 := by omega
        have hln2 : Hid (c / (3 + 1) ^ (L - S) = D / 4) := hln
        clear hln hdg hD
        generalize D / 4 = E at *
        go_wp2_with fail
        go_roundw
        case rel => exact ⟨S, _, by omega, by rw [hln2.out], rfl, hst.out.1, hxs2.out, hg2.out⟩
        case measure => simp [intOf]

end Go.Proofs.Ythfikgaghinfbaa
