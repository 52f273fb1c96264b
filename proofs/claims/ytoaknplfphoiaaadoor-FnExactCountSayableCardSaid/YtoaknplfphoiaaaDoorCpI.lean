/-
  Copies of slices of integers: laws.toIntS; what a slice of integers that came in is.
-/
import Derived.Test.YtoaknplfphoiaaaDoorRDraw
import Derived.SliceStrings
namespace Go.Proofs.YtoaknplfphoiaaaDoor
open Go.RowKit

/-- A slice of integers that came in: what lies there. -/
theorem IsRow.ints {w : World} {a : Option Addr} {len cap : Nat} {zs : List Int} (h : IsRow .i64 w a len cap zs) : ∃ xs : List Int, xs.length = len ∧ IntsAt w a xs := by
  by_cases h0 : len = 0
  · subst h0
    exact ⟨[], rfl, by simp, .inl rfl⟩
  · rcases h with ⟨_, h, _⟩ | ⟨x, rfl, h1, h2, h3, h4, _⟩
    · exact absurd h h0
    · obtain ⟨b, off, spot⟩ := x
      have c0 := h4 0 (by omega)
      have hsp : spot = none := by simpa [Addr.add] using World.cell?_spot c0
      subst hsp
      have hl : (zs.take len).length = len := by rw [List.length_take]; omega
      refine ⟨zs.take len, hl, by omega, .inr ⟨b, off, rfl, by simpa [Addr.add] using World.block_lt_of_cell? w _ c0, fun i hi => ?_⟩⟩
      have := h4 i (by omega)
      rw [add_none] at this
      rw [this]
      rw [hl] at hi
      simp [List.getD_eq_getElem?_getD, hi]
def CpiRel (g : Nat) (xs : List Int) (w : World) (i : Value) (wr : World) : Prop :=
  ∃ (k : Nat) (vs : List Value), k ≤ xs.length ∧ i = .int .i64 k ∧ wr.ownsRow w.heap.size 3 1 (.slice (some ⟨g, 0, none⟩) xs.length xs.length) xs.length vs ∧ (∀ j, j < k → vs[j]? = some (.int .i64 (xs.getD j 0))) ∧ w.grownBy wr none
/-- What a copy leaves. -/
def CopyPost (xs : List Int) (w : World) (e : Ending) (w' : World) : Prop :=
  ∃ a cap, e = .returned (.slice a xs.length cap) ∧ IntsAt w' a xs ∧ w.grownBy w' none
theorem own_copied {g : Nat} {xs : List Int} {w wr : World} {vs : List Value} (hm : xs.length ≤ maxLen) (h : wr.ownsRow w.heap.size 3 1 (.slice (some ⟨g, 0, none⟩) xs.length xs.length) xs.length vs) (hx : ∀ j, j < xs.length → vs[j]? = some (.int .i64 (xs.getD j 0))) : IntsAt wr (some ⟨g, 0, none⟩) xs := by
  refine ⟨hm, ?_⟩
  by_cases h0 : xs.length = 0
  · exact .inl (List.length_eq_zero_iff.1 h0)
  · have c0 := World.ownsRow.cellAt h 0 (by omega)
    rw [hx 0 (by omega)] at c0
    refine .inr ⟨g, 0, rfl, World.block_lt_of_cell? wr _ c0, fun i hi => ?_⟩
    have hc := World.ownsRow.cellAt h i (by omega)
    rw [Nat.zero_add, hc, hx i hi]

set_option maxHeartbeats 1000000 in
theorem toI_any (a : Option Addr) (cap : Nat) (xs : List Int) (hn : xs.length ≤ 100000000) (w : World) (h : IntsAt w a xs) :
    Calls Tryd.prog 27 #[.slice a xs.length cap] w (CopyPost xs w) := by
  obtain ⟨i0, hi, hz0, hz1, hz2⟩ := info_parts infoInt
  have Hh := Lib.hid h
  have hm0 := h.1
  clear h
  go_enter Tryd.func27, Tryd.ntmps27
  go_wp2_with (at_make; refine wpList_make_full _ rfl _ _ 25 rfl w.heap.size 3 i0 (.int .i64 0) 1 Tryd.underlying25 hi hz0 hz1 .i64 .i64 _ _ xs.length rfl rfl rfl rfl ?b2 ?b3 (Nat.le_refl _) ?_)
  case b2 => rw [hz2]; omega
  case b3 => unfold maxLen; omega
  intro w0 hown0 hgrow0
  go_wp2
  go_loopw [4] (fun i wr => CpiRel w.heap.size xs w i wr) (fun i _ => xs.length - (intOf i).toNat)
  case atStart => exact ⟨0, _, by omega, rfl, hown0, fun j hj => absurd hj (by omega), hgrow0⟩
  case round =>
    obtain ⟨k, vs, hk, rfl, hown, hxs, hgr⟩ := hrel
    by_cases hlt : k < xs.length
    · have hx2 := Hh.out.grown hgr
      rcases hx2.2 with h0 | ⟨bx, ox, rfl, hbx, hcx⟩
      · rw [h0] at hlt; simp at hlt
      have hc1 := hcx k hlt
      have hfr := World.ownsRow.frozenAt hown k
      have hce := World.ownsRow.cellAt hown k (by omega)
      have hxl := hown.1
      rw [List.getElem?_eq_getElem (by omega)] at hce
      obtain ⟨u, hce⟩ : ∃ u, wr.cell? ⟨w.heap.size, k, none⟩ = some u := ⟨_, hce⟩
      have hst := Lib.hid (World.ownsRow.stored hown k (.int .i64 (xs.getD k 0)))
      have hg2 := Lib.hid (grownBy_row hgr hown (Nat.le_refl _) hst.out.2)
      have hxs2 : Hid (∀ j, j < k + 1 → (vs.set k (.int .i64 (xs.getD k 0)))[j]? = some (.int .i64 (xs.getD j 0))) := fun j hj => by
        by_cases e : j = k
        · subst e; rw [List.getElem?_set_self (by omega)]
        · rw [List.getElem?_set_ne (by omega)]; exact hxs j (by omega)
      clear hown hgr hx2 hcx hbx hxs
      generalize xs.getD k 0 = q at *
      go_wp2
      go_roundw
      case rel => exact ⟨k + 1, _, by omega, by go_num, hst.out.1, hxs2.out, hg2.out⟩
      case measure => simp [intOf]; omega
    · obtain rfl : k = xs.length := by omega
      have hs := Lib.hid (own_copied hm0 hown hxs)
      have Hg := Lib.hid hgr
      clear hown hxs hgr
      go_wp2
      go_ret
      exact ⟨_, _, rfl, hs.out, Hg.out⟩
theorem eqI_self (a b : Option Addr) (ca cb : Nat) (x : List Int) (w : World) (hx : IntsAt w a x) (hy : IntsAt w b x) :
    Calls Tryd.prog 28 #[.slice a x.length ca, .slice b x.length cb] w fun e w' => e = .returned (.bool true) ∧ w.grownBy w' none := by
  have := eqIntS_any a b ca cb x x w hx hy
  rwa [sameL_self] at this

end Go.Proofs.YtoaknplfphoiaaaDoor
