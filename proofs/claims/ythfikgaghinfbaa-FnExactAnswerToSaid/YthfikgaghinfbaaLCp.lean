/-
  Copies of slices of integers, for the exact laws of chapter 11: laws.toIntS, marks of longer rows; what a slice of integers that came in is.
-/
import Derived.Test.YthfikgaghinfbaaLImp
import Derived.Test.YthfikgaghinfbaaDraw3
import Derived.SliceStrings
namespace Go.Proofs.Ythfikgaghinfbaa
open Go.RowKit

/-- A slice of integers that came in: what lies there. -/
theorem IsRow.lints {w : World} {a : Option Addr} {len cap : Nat} {zs : List Int} (h : IsRow .i64 w a len cap zs) : ∃ xs : List Int, xs.length = len ∧ IntsAt w a xs := by
  by_cases h0 : len = 0
  · subst h0
    exact ⟨[], rfl, by simp, .inl rfl⟩
  · rcases h with ⟨_, h, _⟩ | ⟨x, rfl, h1, h2, h3, h4, _⟩
    · exact absurd h h0
    · obtain ⟨b, off, spot⟩ := x
      have c0 := h4 0 (by omega)
      have hsp : spot = none := by simpa [Addr.add] using World.cell?_spot c0
      subst hsp
      have hl : (zs.take len).length = len := by rw [List.length_take]; omega
      refine ⟨zs.take len, hl, by omega, .inr ⟨b, off, rfl, by simpa [Addr.add] using World.block_lt_of_cell? w _ c0, fun i hi => ?_⟩⟩
      have := h4 i (by omega)
      rw [add_none] at this
      rw [this]
      rw [hl] at hi
      simp [List.getD_eq_getElem?_getD, hi]
def LcpRel (g : Nat) (xs : List Int) (w : World) (i : Value) (wr : World) : Prop :=
  ∃ (k : Nat) (vs : List Value), k ≤ xs.length ∧ i = .int .i64 k ∧ wr.ownsRow w.heap.size 3 1 (.slice (some ⟨g, 0, none⟩) xs.length xs.length) xs.length vs ∧ (∀ j, j < k → vs[j]? = some (.int .i64 (xs.getD j 0))) ∧ w.grownBy wr none
theorem lown_copied {g : Nat} {xs : List Int} {w wr : World} {vs : List Value} (h : wr.ownsRow w.heap.size 3 1 (.slice (some ⟨g, 0, none⟩) xs.length xs.length) xs.length vs) (hx : ∀ j, j < xs.length → vs[j]? = some (.int .i64 (xs.getD j 0))) : OwnI wr w.heap.size (some ⟨g, 0, none⟩) xs.length xs := by
  have e := vals_map (vs := vs) (zs := xs) (by have := h.1; omega) hx
  rw [e] at h
  exact h

set_option maxHeartbeats 1000000 in
theorem ltoI_any (a : Option Addr) (cap : Nat) (xs : List Int) (hn : xs.length ≤ 100000000) (w : World) (h : IntsAt w a xs) :
    Calls Try.prog 41 #[.slice a xs.length cap] w (IntsPost xs w) := by
  obtain ⟨i0, hi, hz0, hz1, hz2⟩ := info_parts infoInt
  have Hh := Lib.hid h
  clear h
  go_enter Try.func41, Try.ntmps41
  go_wp2_with (at_make; refine wpList_make_full _ rfl _ _ 23 rfl w.heap.size 3 i0 (.int .i64 0) 1 Try.underlying23 hi hz0 hz1 .i64 .i64 _ _ xs.length rfl rfl rfl rfl ?b2 ?b3 (Nat.le_refl _) ?_)
  case b2 => rw [hz2]; omega
  case b3 => unfold maxLen; omega
  intro w0 hown0 hgrow0
  go_wp2
  go_loopw [4] (fun i wr => LcpRel w.heap.size xs w i wr) (fun i _ => xs.length - (intOf i).toNat)
  case atStart => exact ⟨0, _, by omega, rfl, hown0, fun j hj => absurd hj (by omega), hgrow0⟩
  case round =>
    obtain ⟨k, vs, hk, rfl, hown, hxs, hgr⟩ := hrel
    by_cases hlt : k < xs.length
    · have hx2 := Hh.out.grown hgr
      rcases hx2.2 with h0 | ⟨bx, ox, rfl, hbx, hcx⟩
      · rw [h0] at hlt; simp at hlt
      have hc1 := hcx k hlt
      have hfr := World.ownsRow.frozenAt hown k
      have hce := World.ownsRow.cellAt hown k (by omega)
      have hxl := hown.1
      rw [List.getElem?_eq_getElem (by omega)] at hce
      obtain ⟨u, hce⟩ : ∃ u, wr.cell? ⟨w.heap.size, k, none⟩ = some u := ⟨_, hce⟩
      have hst := Lib.hid (World.ownsRow.stored hown k (.int .i64 (xs.getD k 0)))
      have hg2 := Lib.hid (grownBy_row hgr hown (Nat.le_refl _) hst.out.2)
      have hxs2 : Hid (∀ j, j < k + 1 → (vs.set k (.int .i64 (xs.getD k 0)))[j]? = some (.int .i64 (xs.getD j 0))) := fun j hj => by
        by_cases e : j = k
        · subst e; rw [List.getElem?_set_self (by omega)]
        · rw [List.getElem?_set_ne (by omega)]; exact hxs j (by omega)
      clear hown hgr hx2 hcx hbx hxs
      generalize xs.getD k 0 = q at *
      go_wp2
      go_roundw
      case rel => exact ⟨k + 1, _, by omega, by go_num, hst.out.1, hxs2.out, hg2.out⟩
      case measure => simp [intOf]; omega
    · obtain rfl : k = xs.length := by omega
      have hs := Lib.hid (lown_copied hown hxs)
      have Hg := Lib.hid hgr
      clear hown hxs hgr
      go_wp2
      go_ret
      exact ⟨_, _, rfl, hs.out, Hg.out⟩
theorem leqI_self (a b : Option Addr) (ca cb : Nat) (x : List Int) (w : World) (hx : IntsAt w a x) (hy : IntsAt w b x) :
    Calls Try.prog 42 #[.slice a x.length ca, .slice b x.length cb] w fun e w' => e = .returned (.bool true) ∧ w.grownBy w' none := by
  have := eqIntS_any a b ca cb x x w hx hy
  rwa [sameL_self] at this

theorem lmarkI_any (k : Int) (hk : 0 ≤ k ∧ k ≤ 100000000) (base : Nat) (a : Option Addr) (cap : Nat) (zs : List Int) (hz : zs.length ≤ 100000000) (w : World) (ho : OwnI w base a cap zs) :
    Calls Try.prog 43 #[.slice a zs.length cap, .int .i64 k] w (MarkPost k base a cap zs w) := by
  unfold OwnI at ho
  rcases ho.2 with ⟨h1, h0⟩ | ⟨g, c, cur, h1, hb, hg, h2⟩
  · simp only [Value.slice.injEq] at h1
    obtain ⟨rfl, h3, rfl⟩ := h1
    rw [h0] at ho
    have hp : Hid (MarkPost k base none 0 zs w (.returned (.int .i64 k)) w) := by
      unfold Hid MarkPost
      rw [h0]
      exact ⟨by simp, ⟨by simp [marks], .inl ⟨rfl, rfl⟩⟩, grownBy_refl _ _⟩
    rw [h3]
    clear ho h0 h3
    go_enter Try.func43, Try.ntmps43
    go_wp2
    go_loopw [1, 5] (fun kv i wr => kv = .int .i64 k ∧ i = .int .i64 0 ∧ w = wr) (fun _ _ _ => 0)
    case atStart => exact ⟨rfl, rfl, rfl⟩
    case round =>
      obtain ⟨rfl, rfl, rfl⟩ := hrel
      go_wp2
      go_ret
      exact hp.out
  · simp only [Value.slice.injEq, true_and] at h1
    obtain ⟨rfl, rfl⟩ := h1
    have Ho := Lib.hid ho
    clear ho hg h2
    go_enter Try.func43, Try.ntmps43
    go_wp2
    go_loopw [1, 5] (fun kv i wr => MarkRel k base g cap zs w kv i wr) (fun _ i _ => zs.length - (intOf i).toNat)
    case atStart => exact ⟨0, by omega, rfl, by simp, by rw [marked_0]; exact Ho.out, grownBy_refl _ _⟩
    case round =>
      obtain ⟨j, hj, rfl, rfl, hown, hgr⟩ := hrel
      by_cases hlt : j < zs.length
      · have hfr := World.ownsRow.frozenAt hown j
        have hce := World.ownsRow.cellAt hown j (by omega)
        rw [List.getElem?_eq_getElem (by rw [List.length_map, marked_len _ _ _ hj]; exact hlt)] at hce
        obtain ⟨u, hce⟩ : ∃ u, wr.cell? ⟨g, j, none⟩ = some u := ⟨_, hce⟩
        have hst := Lib.hid (mark_step hlt hown hgr)
        clear hown hgr
        go_wp2
        go_roundw
        case rel => exact ⟨j + 1, by omega, by go_num, by refine congrArg (Value.int .i64) ?_; omega, hst.out.1, hst.out.2⟩
        case measure => simp [intOf]; omega
      · obtain rfl : j = zs.length := by omega
        rw [marked_all] at hown
        have hp : Hid (MarkPost k base (some ⟨g, 0, none⟩) cap zs w (.returned (.int .i64 (k + zs.length))) wr) := ⟨rfl, hown, hgr⟩
        clear hown hgr
        go_wp2
        go_ret
        exact hp.out

theorem own_apart2 {w1 w2 : World} {base : Nat} {a b : Option Addr} {ca cb : Nat} {x y : List Int} (h1 : OwnI w1 base a ca x) (h2 : OwnI w2 w1.heap.size b cb y) :
    ∀ z, b = some z → some z.block ≠ (Value.slice a x.length ca).ownBlock := by
  intro z hz e
  subst hz
  have l1 := World.ownsRow.lt h1 z.block e.symm
  have l2 := World.ownsRow.lt h2 z.block rfl
  omega
theorem OwnI.past {w w' : World} {base base2 : Nat} {a b : Option Addr} {ca cb : Nat} {x y : List Int} (h : OwnI w base a ca x) (hg : w.grownBy w' (Value.slice b y.length cb).ownBlock) (hn : ∀ z, a = some z → some z.block ≠ (Value.slice b y.length cb).ownBlock) (hb : base2 ≤ base) : OwnI w' base2 a ca x := by
  refine own_lower2 (World.ownsRow.kept h hg ?_) hb
  cases a with
  | none => exact .inl rfl
  | some z =>
    refine .inr fun e => hn z rfl ?_
    rw [← e]
    rcases h.2 with ⟨h1, _⟩ | ⟨g, c, cur, h1, _⟩
    · cases h1
    · simp only [Value.slice.injEq, Option.some.injEq] at h1
      obtain ⟨rfl, _, _⟩ := h1
      rfl

end Go.Proofs.Ythfikgaghinfbaa
