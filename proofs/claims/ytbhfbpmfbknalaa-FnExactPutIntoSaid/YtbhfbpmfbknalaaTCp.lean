/-
  What the exact laws ask of tables: copies, comparisons, marks. No condition but that a table can be read.
-/
import Derived.Test.YtbhfbpmfbknalaaTIm
import Derived.Test.YtbhfbpmfbknalaaDraw3
import Derived.OpenShut
import Derived.ChangeSame
import Derived.Lib.SmallJoins
namespace Go.Proofs.Ytbhfbpmfbknalaa
open Go.RowKit

theorem row_ints {w : World} {a : Option Addr} {len cap : Nat} {zs : List Int} (h : IsRow .i64 w a len cap zs) : ∃ xs : List Int, xs.length = len ∧ IntsAt w a xs := by
  by_cases h0 : len = 0
  · subst h0
    exact ⟨[], rfl, by simp, .inl rfl⟩
  · rcases h with ⟨_, h, _⟩ | ⟨x, rfl, h1, h2, h3, h4, _⟩
    · exact absurd h h0
    · obtain ⟨b, off, spot⟩ := x
      have c0 := h4 0 (by omega)
      have hsp : spot = none := by simpa [Addr.add] using World.cell?_spot c0
      subst hsp
      have hl : (zs.take len).length = len := by rw [List.length_take]; omega
      refine ⟨zs.take len, hl, by omega, .inr ⟨b, off, rfl, by simpa [Addr.add] using World.block_lt_of_cell? w _ c0, fun i hi => ?_⟩⟩
      have := h4 i (by omega)
      rw [add_none] at this
      rw [this]
      rw [hl] at hi
      simp [List.getD_eq_getElem?_getD, hi]
/-- A table that came in, opened. -/
theorem open_tab {H : Type} {enc : TypeId × Value → H} {P : Program} {w : World} {r : Reach} {b0 base : Nat} {spare : Nat → Bool} {held : Bool} {t s e : TypeId} {f0 : Field} {v : Value} {d : DataW H} {ps : List MemPlace}
    (hs : P.underlying t = some (.struct #[f0])) (hf : f0.type = s) (ho : f0.offset = 0) (hsl : P.underlying s = some (.slice e)) (h1 : P.cellsOf t = 1) (h2 : P.cellsOf s = 1)
    (hv : Value.okWide P w r b0 t v) (h : DataW.Trod enc P w base spare held t v d ps) : ∃ a len cap y, v = .agg #[.slice a len cap] ∧ ∃ fuel, DataW.trod enc P w base spare held fuel s [.slice a len cap] = some y := by
  obtain ⟨cs, rfl, hc⟩ := WideShapes.okWide_struct hs hv
  obtain ⟨n, hn⟩ := h
  have hcs : (Value.agg cs).cells = cs := rfl
  rw [hcs] at hn
  obtain ⟨y0, m, _, hy⟩ := ChangeShapes.trod_struct1 hs hn
  rw [hf, ho, h2] at hy
  rw [h1] at hc
  obtain ⟨u, rfl⟩ : ∃ u, cs = #[u] := by
    match cs, hc with
    | ⟨[u]⟩, _ => exact ⟨u, rfl⟩
  have hy2 : 1 = P.cellsOf t ∧ DataW.trod enc P w base spare held m s [u] = some y0 := by simpa using hy
  have hy' := hy2.2
  obtain ⟨a, l, c, e1⟩ := Joins.slice_form hsl hy'
  simp only [List.cons.injEq, and_true] at e1
  subst e1
  exact ⟨a, l, c, y0, rfl, m, hy'⟩

/-- Two new variables that hold no table yet. -/
theorem sn_pair (w : World) :
    let wb := (w.alloc (.cells #[.slice none 0 0] 25)).alloc (.cells #[.slice none 0 0] 25)
    T1 wb w.heap.size (.slice none 0 0) ∧ T1 wb (w.heap.size + 1) (.slice none 0 0) ∧ w.grownBy wb none := by
  intro wb
  have t1 := T1.new w (.slice none 0 0)
  have g1 : w.grownBy (w.alloc (.cells #[.slice none 0 0] 25)) none := World.grownBy_alloc _ _ none
  have s1 : (w.alloc (.cells #[.slice none 0 0] 25)).heap.size = w.heap.size + 1 := by simp
  have t2 := T1.new (w.alloc (.cells #[.slice none 0 0] 25)) (.slice none 0 0)
  have g2 : (w.alloc (.cells #[.slice none 0 0] 25)).grownBy wb none := World.grownBy_alloc _ _ none
  rw [s1] at t2
  exact ⟨t1.grown g2, t2, grownBy_trans g1 g2⟩

theorem eqT_any (a b : Option Addr) (ca cb : Nat) (x y : List Int) (w : World) (hx : IntsAt w a x) (hy : IntsAt w b y) :
    Calls Try.prog 38 #[.agg #[.slice a x.length ca], .agg #[.slice b y.length cb]] w fun e w' => e = .returned (.bool (sameL x y)) ∧ w.grownBy w' none := by
  have g1 : w.grownBy (w.alloc (.cells #[.slice a x.length ca] 25)) none := World.grownBy_alloc _ _ none
  have g2 := grownBy_trans g1 (World.grownBy_alloc (w.alloc (.cells #[.slice a x.length ca] 25)) (.cells #[.slice b y.length cb] 25) none)
  have c1 := eqIntS_any a b ca cb x y _ (hx.grown g2) (hy.grown g2)
  have G2 := Lib.hid g2
  clear hx hy g1 g2
  cases h : sameL x y
  all_goals
    rw [h] at c1
    clear h
    go_enter Try.func38, Try.ntmps38
    go_wp2_with fail
    refine c1.mono ?_
    rintro e w2 ⟨rfl, g3⟩
    clear c1
    go_wp2_with fail
    go_ret
    exact ⟨rfl, grownBy_trans G2.out g3⟩

theorem sameT_any (a b : Option Addr) (ca cb : Nat) (x y : List Int) (w : World) (hx : IntsAt w a x) (hy : IntsAt w b y) :
    Calls Try.prog 26 #[.agg #[.slice a x.length ca], .agg #[.slice b y.length cb]] w fun e w' => e = .returned (.bool (sameL x y)) ∧ w.grownBy w' none := by
  have g1 : w.grownBy (w.alloc (.cells #[.slice a x.length ca] 25)) none := World.grownBy_alloc _ _ none
  have g2 := grownBy_trans g1 (World.grownBy_alloc (w.alloc (.cells #[.slice a x.length ca] 25)) (.cells #[.slice b y.length cb] 25) none)
  have c1 := sameInts_any a b ca cb x y _ (hx.grown g2) (hy.grown g2)
  have G2 := Lib.hid g2
  clear hx hy g1 g2
  go_enter Try.func26, Try.ntmps26
  go_wp2_with fail
  refine c1.mono ?_
  rintro e w2 ⟨rfl, g3⟩
  clear c1
  go_wp2_with fail
  go_ret
  exact ⟨rfl, grownBy_trans G2.out g3⟩

theorem markT_any (k : Int) (hk : 0 ≤ k ∧ k ≤ 1000000) (base : Nat) (a : Option Addr) (cap : Nat) (zs : List Int) (hz : zs.length ≤ 1000000) (w : World) (ho : OwnI w base a cap zs) :
    Calls Try.prog 39 #[.agg #[.slice a zs.length cap], .int .i64 k] w (MarkPost k base a cap zs w) := by
  have g1 : w.grownBy (w.alloc (.cells #[.slice a zs.length cap] 25)) none := World.grownBy_alloc _ _ none
  have c1 := markIntS_any k hk base a cap zs hz _ (ho.kept g1)
  clear ho g1
  go_enter Try.func39, Try.ntmps39
  go_wp2_with fail
  refine c1.mono ?_
  rintro e w2 ⟨rfl, ho, g3⟩
  have HO := Lib.hid ho
  have HG := Lib.hid (grow_box g3)
  clear c1 ho g3
  go_wp2_with fail
  go_ret
  exact ⟨rfl, HO.out, HG.out⟩

theorem heldT_any (k : Int) (hk : 0 ≤ k ∧ k ≤ 1000000) (a : Option Addr) (n cap : Nat) (hz : n ≤ 1000000) (w : World) (ho : IntsAt w a (marks k n)) :
    Calls Try.prog 40 #[.agg #[.slice a n cap], .int .i64 k] w fun e w' => e = .returned (.int .i64 (k + n)) ∧ w.grownBy w' none := by
  have g1 : w.grownBy (w.alloc (.cells #[.slice a n cap] 25)) none := World.grownBy_alloc _ _ none
  have c1 := heldIntS_any k hk a n cap hz _ (ho.grown g1)
  have G1 := Lib.hid g1
  clear ho g1
  go_enter Try.func40, Try.ntmps40
  go_wp2_with fail
  refine c1.mono ?_
  rintro e w2 ⟨rfl, rfl⟩
  clear c1
  go_wp2_with fail
  go_ret
  exact ⟨rfl, G1.out⟩

def CpoRel (g : Nat) (xs : List Int) (w : World) (i : Value) (wr : World) : Prop :=
  ∃ (k : Nat) (vs : List Value), k ≤ xs.length ∧ i = .int .i64 k ∧ wr.ownsRow w.heap.size 3 1 (.slice (some ⟨g, 0, none⟩) xs.length xs.length) xs.length vs ∧ (∀ j, j < k → vs[j]? = some (.int .i64 (xs.getD j 0))) ∧ w.grownBy wr none
theorem own_copy {g : Nat} {xs : List Int} {w wr : World} {vs : List Value} (h : wr.ownsRow w.heap.size 3 1 (.slice (some ⟨g, 0, none⟩) xs.length xs.length) xs.length vs) (hx : ∀ j, j < xs.length → vs[j]? = some (.int .i64 (xs.getD j 0))) : OwnI wr w.heap.size (some ⟨g, 0, none⟩) xs.length xs := by
  have hl := h.1
  have e : vs = xs.map (Value.int .i64) := by
    apply List.ext_getElem?
    intro j
    by_cases hj : j < xs.length
    · rw [hx j hj]
      simp [hj]
    · rw [List.getElem?_eq_none (by omega), List.getElem?_eq_none (by simp; omega)]
  rw [e] at h
  exact h

set_option maxHeartbeats 1000000 in
theorem toIo_any (a : Option Addr) (cap : Nat) (xs : List Int) (hn : xs.length ≤ 100000000) (w : World) (h : IntsAt w a xs) :
    Calls Try.prog 62 #[.slice a xs.length cap] w (IntsPost xs w) := by
  obtain ⟨i0, hi, hz0, hz1, hz2⟩ := info_parts infoInt
  have Hh := Lib.hid h
  clear h
  go_enter Try.func62, Try.ntmps62
  go_wp2_with (at_make; refine wpList_make_full _ rfl _ _ 23 rfl w.heap.size 3 i0 (.int .i64 0) 1 Try.underlying23 hi hz0 hz1 .i64 .i64 _ _ xs.length rfl rfl rfl rfl ?b2 ?b3 (Nat.le_refl _) ?_)
  case b2 => rw [hz2]; omega
  case b3 => unfold maxLen; omega
  intro w0 hown0 hgrow0
  go_wp2
  go_loopw [4] (fun i wr => CpoRel w.heap.size xs w i wr) (fun i _ => xs.length - (intOf i).toNat)
  case atStart => exact ⟨0, _, by omega, rfl, hown0, fun j hj => absurd hj (by omega), hgrow0⟩
  case round =>
    obtain ⟨k, vs, hk, rfl, hown, hxs, hgr⟩ := hrel
    by_cases hlt : k < xs.length
    · have hx2 := Hh.out.grown hgr
      rcases hx2.2 with h0 | ⟨bx, ox, rfl, hbx, hcx⟩
      · rw [h0] at hlt; simp at hlt
      have hc1 := hcx k hlt
      have hfr := World.ownsRow.frozenAt hown k
      have hce := World.ownsRow.cellAt hown k (by omega)
      have hxl := hown.1
      rw [List.getElem?_eq_getElem (by omega)] at hce
      obtain ⟨u, hce⟩ : ∃ u, wr.cell? ⟨w.heap.size, k, none⟩ = some u := ⟨_, hce⟩
      have hst := Lib.hid (World.ownsRow.stored hown k (.int .i64 (xs.getD k 0)))
      have hg2 := Lib.hid (grownBy_row hgr hown (Nat.le_refl _) hst.out.2)
      have hxs2 : Hid (∀ j, j < k + 1 → (vs.set k (.int .i64 (xs.getD k 0)))[j]? = some (.int .i64 (xs.getD j 0))) := fun j hj => by
        by_cases e : j = k
        · subst e; rw [List.getElem?_set_self (by omega)]
        · rw [List.getElem?_set_ne (by omega)]; exact hxs j (by omega)
      clear hown hgr hx2 hcx hbx hxs
      generalize xs.getD k 0 = q at *
      go_wp2
      go_roundw
      case rel => exact ⟨k + 1, _, by omega, by go_num, hst.out.1, hxs2.out, hg2.out⟩
      case measure => simp [intOf]; omega
    · obtain rfl : k = xs.length := by omega
      have hs := Lib.hid (own_copy hown hxs)
      have Hg := Lib.hid hgr
      clear hown hxs hgr
      go_wp2
      go_ret
      exact ⟨_, _, rfl, hs.out, Hg.out⟩

set_option maxHeartbeats 1000000 in
theorem toT_any (a : Option Addr) (cap : Nat) (xs : List Int) (hn : xs.length ≤ 100000000) (w : World) (h : IntsAt w a xs) :
    Calls Try.prog 37 #[.agg #[.slice a xs.length cap]] w (TabPost xs w) := by
  have g1 : w.grownBy (w.alloc (.cells #[.slice a xs.length cap] 43)) none := World.grownBy_alloc _ _ none
  have s1 : (w.alloc (.cells #[.slice a xs.length cap] 43)).heap.size = w.heap.size + 1 := by simp
  obtain ⟨w1, hw1⟩ : ∃ w1, w1 = w.alloc (.cells #[.slice a xs.length cap] 43) := ⟨_, rfl⟩
  have hl1 := sn_pair w1
  rw [← hw1] at g1 s1
  obtain ⟨p1, p2, p3⟩ := hl1
  obtain ⟨wb, hwb⟩ : ∃ wb, wb = (w1.alloc (.cells #[.slice none 0 0] 25)).alloc (.cells #[.slice none 0 0] 25) := ⟨_, rfl⟩
  rw [← hwb, s1] at p1 p2
  rw [← hwb] at p3
  have sb : wb.heap.size = w.heap.size + 3 := by rw [hwb]; simp [s1]
  have c1 := toIo_any a cap xs hn wb (h.grown (grownBy_trans g1 p3))
  have P1 := Lib.hid p1
  have P2 := Lib.hid p2
  have GG := Lib.hid (grownBy_trans g1 p3)
  have SB := Lib.hid sb
  rw [hw1] at hwb
  clear h g1 s1 p1 p2 p3 sb hw1
  go_enter Try.func37, Try.ntmps37
  go_wp2_with fail
  rw [← hwb]
  clear hwb
  refine c1.mono ?_
  rintro e w2 ⟨a', cap', rfl, hO, g2⟩
  have hs2 := SB.out
  have q1 := P1.out.grown g2
  have q2 := P2.out.grown g2
  have n1 := q1.cell
  have n2 := q2.cell
  have d1 := q1.free
  have d2 := q2.free
  have hgs : w2.grownBy (w2.setCell ⟨w.heap.size + 2, 0, none⟩ (.slice a' xs.length cap')) (some (w.heap.size + 2)) := grownBy_set w2 (w.heap.size + 2) 0 _
  have hO3 : OwnI (w2.setCell ⟨w.heap.size + 2, 0, none⟩ (.slice a' xs.length cap')) wb.heap.size a' cap' xs := World.ownsRow.kept hO hgs (.inr fun e => by
    have := World.ownsRow.lt hO _ e
    omega)
  have q3 : T1 (w2.setCell ⟨w.heap.size + 2, 0, none⟩ (.slice a' xs.length cap')) (w.heap.size + 1) (.slice none 0 0) := (hgs.block _ q1.lt (by simp)).trans q1
  have q4 := q2.set (v := .slice a' xs.length cap')
  have n3 := q3.cell
  have n4 := q4.cell
  have d3 := q3.free
  have F := Lib.hid (fin_tab (.slice a' xs.length cap') hO3 (grow_at (grownBy_trans GG.out g2) hgs (by omega)) (B := w.heap.size + 1) (by omega) (by omega))
  have R := Lib.hid (q3.set (v := .slice a' xs.length cap'))
  clear c1 q1 q2 hgs hO3 q3 q4 hO g2 hs2
  go_wp2_with fail
  exact bodyPost_ret (resT1 rfl _ rfl R.out) rfl ⟨a', cap', rfl, F.out⟩

theorem szT_yes (a : Option Addr) (n cap : Nat) (left : Int) (hn : n ≤ maxLen) (hl : 0 ≤ left ∧ left ≤ 1048576) (h : (n : Int) ≤ left) (w : World) :
    Calls Try.prog 36 #[.agg #[.slice a n cap], .int .i64 left] w fun e w' => e = .returned (.int .i64 (left - n)) ∧ w.grownBy w' none := by
  unfold maxLen at hn
  have hge : ¬ (left - (n : Int) < 0) := by omega
  have c1 : ∀ w, Calls Try.prog 61 #[.slice a n cap, .int .i64 left] w fun e w' => e = .returned (.int .i64 (left - n)) ∧ w = w' := fun w => by
    go_enter Try.func61, Try.ntmps61
    go_wp2_with fail
    go_ret
    exact ⟨rfl, rfl⟩
  go_enter Try.func36, Try.ntmps36
  go_wp2_with fail
  refine (c1 _).mono ?_
  rintro e w2 ⟨rfl, rfl⟩
  clear c1
  go_wp2_with fail
  go_ret
  exact ⟨rfl, World.grownBy_alloc _ _ none⟩
theorem szT_no (a : Option Addr) (n cap : Nat) (left : Int) (hn : n ≤ maxLen) (hl : 0 ≤ left ∧ left ≤ 1048576) (h : ¬ (n : Int) ≤ left) (w : World) :
    Calls Try.prog 36 #[.agg #[.slice a n cap], .int .i64 left] w fun e w' => e = .returned (.int .i64 (-1)) ∧ w.grownBy w' none := by
  unfold maxLen at hn
  have hge : left - (n : Int) < 0 := by omega
  have c1 : ∀ w, Calls Try.prog 61 #[.slice a n cap, .int .i64 left] w fun e w' => e = .returned (.int .i64 (-1)) ∧ w = w' := fun w => by
    go_enter Try.func61, Try.ntmps61
    go_wp2_with fail
    go_ret
    exact ⟨rfl, rfl⟩
  go_enter Try.func36, Try.ntmps36
  go_wp2_with fail
  refine (c1 _).mono ?_
  rintro e w2 ⟨rfl, rfl⟩
  clear c1
  go_wp2_with fail
  go_ret
  exact ⟨rfl, World.grownBy_alloc _ _ none⟩

end Go.Proofs.Ytbhfbpmfbknalaa
