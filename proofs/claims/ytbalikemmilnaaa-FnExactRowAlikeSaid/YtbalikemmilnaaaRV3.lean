/-
  The walk of the law FnRowFar, out of what the functions answer.
-/
import Derived.Test.YtbalikemmilnaaaRC
import Derived.Test.YtbalikemmilnaaaRDraw2
import Derived.Test.YtbalikemmilnaaaRDraw3
import Derived.Deep.AppendLies
import Derived.Deep.RegionHeld3
namespace Go.Proofs.Ytbalikemmilnaaa
open Go.RowKit

theorem cells2 {w1 w2 : World} {a b : Addr} {x y : Value} (h : w1.cell? a = some x ∧ w1.cell? b = some y) (g : w1.grownBy w2 none) : w2.cell? a = some x ∧ w2.cell? b = some y := ⟨cell_grown h.1 g, cell_grown h.2 g⟩
theorem cells2k {w1 w2 : World} {a b : Addr} {x y : Value} {row : Option Nat} (h : w1.cell? a = some x ∧ w1.cell? b = some y) (g : w1.grownBy w2 row) (na : some a.block ≠ row) (nb : some b.block ≠ row) : w2.cell? a = some x ∧ w2.cell? b = some y :=
  ⟨(World.cell?_of_block (g.block a.block (World.block_lt_of_cell? w1 _ h.1) na)).trans h.1, (World.cell?_of_block (g.block b.block (World.block_lt_of_cell? w1 _ h.2) nb)).trans h.2⟩
theorem own_keptN {w w' : World} {base : Nat} {e : TypeId} {v : Value} {n : Nat} {xs : List Value} (ho : w.ownsRow base e 1 v n xs) (hg : w.grownBy w' none) : w'.ownsRow base e 1 v n xs := World.ownsRow.kept ho hg (by cases v.ownBlock <;> simp)
def lowB (x y l : List Int) : Prop := ∀ j, j < l.length → l.getD j 0 = if x.getD j 0 ≤ y.getD j 0 then x.getD j 0 else y.getD j 0
theorem getD_app (l : List Int) (v : Int) (j : Nat) : (l ++ [v]).getD j 0 = if j < l.length then l.getD j 0 else if j = l.length then v else 0 := by
  rw [List.getD_eq_getElem?_getD]
  by_cases h : j < l.length
  · rw [List.getElem?_append_left h, if_pos h, List.getD_eq_getElem?_getD]
  · rw [List.getElem?_append_right (by omega), if_neg h]
    by_cases e : j = l.length
    · subst e; simp
    · rw [if_neg e, List.getElem?_eq_none (by simp; omega)]; rfl
theorem lowB_next {n : Int} {x y l : List Int} (h : lowB x y l) (ht : twoB n (x.getD l.length 0) (y.getD l.length 0) = true) : lowB x y (l ++ [lessW n (x.getD l.length 0) (y.getD l.length 0)]) := fun j hj => by
  rw [getD_app]
  simp at hj
  by_cases e : j < l.length
  · rw [if_pos e]; exact h j e
  · obtain rfl : j = l.length := by omega
    rw [if_neg e, if_pos rfl]
    unfold lessW
    rw [if_pos ht]
theorem low_rows {n : Int} {x y l : List Int} (h : rowsB n x y = true) (hl : l.length = x.length) (hb : lowB x y l) : rowsB n x l = true ∧ rowsB n l y = true := by
  obtain ⟨h1, h2, h3⟩ := rowsB_of h
  obtain ⟨p1, p2, p3⟩ := rowB_of h1
  obtain ⟨q1, q2, q3⟩ := rowB_of h2
  have hL : rowB n l = true := by
    rw [rowB_end fun j hj => by
      rw [hb j hj]
      split
      · exact p3 j (by omega)
      · exact q3 j (by omega)]
    rw [inB_t (n := n) p1, inB_t (n := (l.length : Int)) (by omega)]
    rfl
  unfold rowsB
  rw [h1, h2, hL]
  exact ⟨by simp; omega, by simp; omega⟩
def LwRel (x y : List Int) (w : World) (v i : Value) (wr : World) : Prop :=
  ∃ low : List Int, low.length ≤ x.length ∧ i = .int .i64 low.length ∧ lowB x y low ∧ wr.ownsRow w.heap.size 3 1 v low.length (low.map (Value.int .i64)) ∧ w.grownBy wr none

set_option maxRecDepth 100000 in
set_option maxHeartbeats 4000000 in
theorem FnRowFar_of (H : RfarC) (a0 : Option Addr) (len0 cap0 : Nat) (z0 : List Int) (w : World) (w0 : IsRow .u8 w a0 len0 cap0 z0) :
    Calls Try.prog 6 #[.slice a0 len0 cap0] w fun e w' => e = .returned (.bool true) ∧ Below w.heap.size w w' := by
  by_cases hl : (1048576 : Int) < (len0 : Int)
  · clear w0
    go_enter Try.func6, Try.ntmps6
    go_wp2_with fail
    go_ret
    exact ⟨rfl, Below.refl _ _⟩
  · go_enter Try.func6, Try.ntmps6
    go_wp2_with fail
    refine (DrawRowFar_any _ _ _ _ _ w0).mono ?_
    rintro e w1 ⟨n, x, y, a, b, ca, cb, rfl, n1, n2, x1, x5, y6, hX, hY, g1⟩
    clear w0
    have HX := Lib.hid hX
    have HY := Lib.hid hY
    clear hX hY
    cases hr : rowsB n x y
    · have c1 := rfar_v H n a b ca cb x y (rfarW_f hr)
      have c2 : ∀ w, IntsAt w a x → IntsAt w b y → Calls Try.prog 32 #[.int .i64 n, .slice a x.length ca, .slice b y.length cb] w fun e w' => e = .returned (.int .i64 (-1)) ∧ w.grownBy w' none := fun w h1 h2 => by rw [← rfarW_f hr]; exact srfar_any n a b ca cb x y w h1 h2
      clear hr
      go_wp2_with fail
      refine (c1 _ HX.out HY.out).mono ?_
      rintro e w2 ⟨rfl, g2⟩
      clear c1
      go_wp2_with fail
      refine (c2 _ (HX.out.grown g2) (HY.out.grown g2)).mono ?_
      rintro e w3 ⟨rfl, g3⟩
      clear c2
      go_wp2_with (go_at_call 18; refine (alive_any _).mono ?_; rintro e w' ⟨rfl, rfl⟩)
      go_ret
      exact ⟨rfl, below_of (grownBy_trans g1 (grownBy_trans g2 g3))⟩
    · obtain ⟨i0, hi, hz0, hz1, hz2⟩ := info_parts infoInt
      have c1 := rfar_v H n a b ca cb x y (rfarW_t hr)
      have c2 : ∀ w, IntsAt w a x → IntsAt w b y → Calls Try.prog 32 #[.int .i64 n, .slice a x.length ca, .slice b y.length cb] w fun e w' => e = .returned (.int .i64 (gapS x y x.length)) ∧ w.grownBy w' none := fun w h1 h2 => by rw [← rfarW_t hr]; exact srfar_any n a b ca cb x y w h1 h2
      obtain ⟨hx1, hy1, hlen⟩ := rowsB_of hr
      have c3 := rfar_v H n b a cb ca y x (v := gapS x y x.length) (by rw [rfarW_t (by unfold rowsB; rw [hx1, hy1]; simp [hlen]), gapS_sym, hlen])
      have c4 := fun w => sameInts_any a b ca cb x y w
      have hz : (gapS x y x.length == 0) = sameL x y := gapS_eq hlen
      have m0 := gapS_pos x y x.length
      have m1 := gapS_le hr x.length (Nat.le_refl _)
      have HR := Lib.hid hr
      have HM : Hid (gapS x y x.length = gapS x y x.length) := rfl
      obtain ⟨M, hM⟩ : ∃ M : Int, M = gapS x y x.length := ⟨_, rfl⟩
      have HM2 := Lib.hid hM
      have HL := Lib.hid hlen
      clear hr hx1 hy1 hlen
      rw [← hM] at c1 c2 c3 hz m0 m1
      clear hM
      obtain ⟨S, hS⟩ : ∃ S : Bool, S = sameL x y := ⟨_, rfl⟩
      rw [← hS] at c4 hz
      clear hS
      have hSS : (S == S) = true := by simp
      have hMM : (M == M) = true := by simp
      have hMn : (M != M) = false := by simp
      go_wp2_with fail
      refine (c1 _ HX.out HY.out).mono ?_
      rintro e w2 ⟨rfl, g2⟩
      clear c1
      go_wp2_with fail
      refine (c2 _ (HX.out.grown g2) (HY.out.grown g2)).mono ?_
      rintro e w3 ⟨rfl, g3⟩
      clear c2
      have g23 := grownBy_trans g2 g3
      have s1 := HX.out.grown g23
      have s2 := HY.out.grown g23
      have G := Lib.hid (grownBy_trans g1 g23)
      have S1 := Lib.hid s1
      have S2 := Lib.hid s2
      clear g1 g2 g3 g23 HX HY s1 s2
      have o1 := World.ownsRow_lit (e := 3) (size := 1) w3 #[] 0 (Nat.le_refl _) (by unfold maxLen; omega) rfl
      go_wp2_with fail
      go_loopw [7, 8] (fun v i wr => LwRel x y w3 v i wr) (fun _ i _ => x.length - (intOf i).toNat)
      case atStart => exact ⟨[], by simp, rfl, fun j hj => absurd hj (by simp), o1, World.grownBy_alloc w3 _ none⟩
      case round =>
        obtain ⟨low, hle, rfl, hlow, hown, hgr⟩ := hrel
        by_cases hlt : low.length < x.length
        · rcases (S1.out.grown hgr).2 with h0 | ⟨bx, ox, ha, hbx, hcx⟩
          · rw [h0] at hlt; simp at hlt
          rcases (S2.out.grown hgr).2 with h0 | ⟨by', oy, hb', hby, hcy⟩
          · have := HL.out; rw [h0] at this; simp only [List.length_nil] at this; omega
          have lx : bx < w3.heap.size := by
            rcases S1.out.2 with h0 | ⟨b2, o2, ha2, hb2, _⟩
            · rw [h0] at hlt; simp at hlt
            · rw [ha] at ha2; cases ha2; exact hb2
          have ly : by' < w3.heap.size := by
            rcases S2.out.2 with h0 | ⟨b2, o2, ha2, hb2, _⟩
            · have := HL.out; rw [h0] at this; simp only [List.length_nil] at this; omega
            · rw [hb'] at ha2; cases ha2; exact hb2
          subst ha
          subst hb'
          have hc1 := hcx _ hlt
          have hc2 := hcy low.length (by have := HL.out; omega)
          have hly : low.length < y.length := by have := HL.out; omega
          have i0' : (0 : Int) ≤ (low.length : Int) := by omega
          have i1 : (low.length : Int) < (x.length : Int) := by omega
          have i2 : (low.length : Int) < (y.length : Int) := by omega
          have ht := rows_at HR.out hlt
          have hnx := Lib.hid (lowB_next hlow ht)
          have cl := less_v n (x.getD low.length 0) (y.getD low.length 0) (v := lessW n (x.getD low.length 0) (y.getD low.length 0)) rfl
          have hb0 : wr.drew.cell? ⟨bx, ox + low.length, none⟩ = some (.int .i64 (x.getD low.length 0)) ∧ wr.drew.cell? ⟨by', oy + low.length, none⟩ = some (.int .i64 (y.getD low.length 0)) := ⟨hc1, hc2⟩
          clear hcx hcy hbx hby ht hlow hc1 hc2
          generalize lessW n (x.getD low.length 0) (y.getD low.length 0) = L at *
          generalize x.getD low.length 0 = p at *
          generalize y.getD low.length 0 = q at *
          go_wp2_with fail
          go_region_held3 (fun w' => w'.cell? ⟨bx, ox + low.length, none⟩ = some (.int .i64 p) ∧ w'.cell? ⟨by', oy + low.length, none⟩ = some (.int .i64 q))
            (first | exact hb0 | exact cells2 (by assumption) gx | exact cells2 (by assumption) (World.grownBy_alloc _ _ none) | exact cells2k (by assumption) hgrow (fun e => by have := World.ownsRow.lt hown bx e.symm; omega) (fun e => by have := World.ownsRow.lt hown by' e.symm; omega) | assumption)
            (first
              | (go_at_call 26; (with_reducible refine (cl _).mono ?_); rintro e w4 ⟨rfl, gx⟩)
              | (refine step_append_lies _ (by rfl) _ _ _ (by rfl) w3.heap.size 3 i0 (.int .i64 0) 1 8 Try.underlying29 hi hz0 hz1 hz2 rfl (by decide) _ _ _ (by rfl) (World.ownsRow.alloc (own_keptN hown (undrawR gx)) _) ⟨w4.heap.size, 0, none⟩ 1 1 [.int .i64 L] (by rfl) (by rfl) (World.news_of_block (cs := #[.int .i64 L]) (t := 3) (fr := (0, 0)) (heap_alloc_new w4 _)) (by simp [Value.oneCell']) (by omega) (by unfold maxLen; omega) (by omega) (by have := gx.size; have := hgr.size; simp at *; omega) (w4.heap.size + 1) (by simp) ?_; intro gg cap w5 hown5 hgrow hat hlt5))
          have gx' := undrawR gx
          have hA := World.ownsRow.alloc (own_keptN hown gx') (.cells #[.int .i64 L] 3)
          have hG := Lib.hid (grownBy_row (grownBy_trans hgr (grownBy_trans gx' (World.grownBy_alloc w4 (.cells #[.int .i64 L] 3) none))) hA (Nat.le_refl _) hgrow)
          have Ho : Hid (w5.ownsRow w3.heap.size 3 1 (.slice (some ⟨gg, 0, none⟩) (low.length + 1) cap) (low ++ [L]).length ((low ++ [L]).map (Value.int .i64))) := by unfold Hid; simpa using hown5
          clear hown hown5 hgrow hA hgr gx' hat hlt5
          go_wp2_with fail
          go_roundw
          case rel => exact ⟨low ++ [L], by simp; omega, by simp, hnx.out, Ho.out, hG.out⟩
          case measure => simp [intOf]; omega
        · have hl2 : low.length = x.length := by omega
          obtain ⟨r1, r2⟩ := low_rows HR.out hl2 hlow
          obtain ⟨a', cap', rfl, hcap, hSt, hbl⟩ := own_ints (by unfold maxLen; omega) hown
          have HS := Lib.hid hSt
          have c5 := rfar_v H n a a' ca cap' x low (rfarW_t r1)
          have c6 := rfar_v H n a' b cap' cb low y (rfarW_t r2)
          have b1 := gapS_le r1 x.length (Nat.le_refl _)
          have b2 := gapS_pos x low x.length
          have b3 := gapS_le r2 low.length (Nat.le_refl _)
          have b4 := gapS_pos low y low.length
          have hsum : gapS x low x.length + gapS low y low.length = M := by rw [hl2, HM2.out]; exact gapS_low x y low x.length (by rw [← hl2]; exact hlow)
          clear r1 r2 hSt hbl hown hlow hl2
          generalize gapS x low x.length = R1 at *
          generalize gapS low y low.length = R2 at *
          have hs : (R1 + R2 == M) = true := by simp; exact hsum
          have Hs := Lib.hid hsum
          clear hsum
          go_wp2_with fail
          refine (c3 _ (S2.out.grown hgr) (S1.out.grown hgr)).mono ?_
          rintro e w4 ⟨rfl, g4⟩
          clear c3
          replace hgr := grownBy_trans hgr g4
          go_wp2_with fail
          refine (c4 _ (S1.out.grown hgr) (S2.out.grown hgr)).mono ?_
          rintro e w5 ⟨rfl, g5⟩
          clear c4
          replace hgr := grownBy_trans hgr g5
          go_wp2_with fail
          refine (c5 _ (S1.out.grown hgr) (HS.out.grown (grownBy_trans g4 g5))).mono ?_
          rintro e w6 ⟨rfl, g6⟩
          clear c5
          replace hgr := grownBy_trans hgr g6
          go_wp2_with fail
          refine (c6 _ (HS.out.grown (grownBy_trans g4 (grownBy_trans g5 g6))) (S2.out.grown hgr)).mono ?_
          rintro e w7 ⟨rfl, g7⟩
          clear c6
          replace hgr := grownBy_trans hgr g7
          go_wp2_with fail
          go_ret
          exact ⟨rfl, below_of (grownBy_trans G.out hgr)⟩

end Go.Proofs.Ytbalikemmilnaaa
