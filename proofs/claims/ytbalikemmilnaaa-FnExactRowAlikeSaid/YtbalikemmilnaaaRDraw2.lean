/-
  The draws of chapter 8: two rows; one for each law.
-/
import Derived.Test.YtbalikemmilnaaaRDraw
namespace Go.Proofs.Ytbalikemmilnaaa
open Go.RowKit

def RowsPost (r : Nat) (w : World) (e : Ending) (w' : World) : Prop :=
  ∃ (n : Int) (xs ys : List Int) (a b : Option Addr) (ca cb : Nat), e = .returned (.tuple #[.int .i64 n, .slice a xs.length ca, .slice b ys.length cb]) ∧ -1 ≤ n ∧ n ≤ 7 ∧ 1 ≤ xs.length ∧ xs.length ≤ 5 ∧ ys.length ≤ 6 ∧ IntsAt w' a xs ∧ IntsAt w' b ys ∧ w.grownBy w' (some r)

def Rows2Rel (r P L : Nat) (w : World) (v i : Value) (wr : World) : Prop :=
  ∃ (ys : List Int), ys.length ≤ L ∧ i = .int .i64 ys.length ∧ wr.ownsRow w.heap.size 3 1 v ys.length (ys.map (Value.int .i64)) ∧ Rd wr r (P + ys.length) ∧ w.grownBy wr (some r)

set_option maxRecDepth 100000 in
set_option maxHeartbeats 4000000 in
theorem rows_draw (w : World) (r P : Nat) (hr : Rd w r P) (hP : P ≤ 60000) :
    Calls Try.prog 56 #[.pointer (some ⟨r, 0, none⟩)] w (RowsPost r w) := by
  obtain ⟨i0, hi, hz0, hz1, hz2⟩ := info_parts infoInt
  go_enter Try.func56, Try.ntmps56
  go_wp2_with fail
  refine (steps_draw _ _ _ _ hr (by omega) (by omega) (by omega)).mono ?_
  rintro e w1 ⟨n, rfl, n1, n2, hr1, hg1⟩
  go_wp2_with fail
  refine (row_draw n _ _ _ hr1 (by omega) (by omega) (by omega)).mono ?_
  rintro e w2 ⟨xs, a, ca, rfl, x1, x2, hca, hxs, hX, hXr, hr2, hg2⟩
  have hlr := hr2.lt
  have hgg := Lib.hid (grownBy_trans hg1 hg2)
  have HX := Lib.hid hX
  have HXr := Lib.hid hXr
  clear hg1 hg2 hr1 hX hXr hxs hr
  have o1 := World.ownsRow_lit (e := 3) (size := 1) w2 #[] 0 (Nat.le_refl _) (by unfold maxLen; omega) rfl
  go_wp2_with fail
  go_loopw [7, 8] (fun v i wr => Rows2Rel r (P + 2 + 11) xs.length w2 v i wr) (fun _ i _ => xs.length - (intOf i).toNat)
  case atStart => exact ⟨[], by simp, rfl, o1, hr2.alloc _, World.grownBy_alloc w2 _ (some r)⟩
  case round =>
    obtain ⟨ys, hyl, rfl, hown, hrr, hgr⟩ := hrel
    by_cases hlt : ys.length < xs.length
    · have h3 : n < 0 ∨ n = 0 ∨ 0 < n := by omega
      rcases h3 with h3 | rfl | h3
      all_goals
        go_wp2_with fail
      all_goals
        refine (pick_any _ _ _ _ hrr (by omega)).mono ?_
        rintro e w3 ⟨k1, rfl, p0, p1, hr3, hg3⟩
        replace hown := own_apartI hown hlr hg3
        replace hgr := grownBy_trans hgr hg3
        clear hg3 hrr
        go_wp2_with (at_builtin; refine wpList_append_own _ rfl _ _ 29 rfl w2.heap.size 3 i0 (.int .i64 0) 1 8 Try.underlying29 hi hz0 hz1 hz2 rfl (by decide) _ _ _ rfl (World.ownsRow.alloc hown _) ⟨w3.heap.size, 0, none⟩ 1 1 [.int .i64 k1] rfl rfl ?c1 ?c2 ?c3 ?c4 ?c5 ?_)
        case c1 =>
          intro j u hj
          match j, hj with
          | 0, hj => simp at hj; subst hj; simp [Addr.add]
        case c2 => intro u hu; simp at hu; subst hu; rfl
        case c3 => unfold maxLen; omega
        case c4 => omega
        case c5 => have := hgr.size; simp; omega
        intro v' w4 hown' hgrow _
        have hA := World.ownsRow.alloc hown (.cells #[.int .i64 k1] 3)
        have hr4 := Lib.hid ((hr3.alloc (.cells #[.int .i64 k1] 3)).rowI hA hlr hgrow)
        have hg4 := Lib.hid (grownBy_rowI (grownBy_trans hgr (World.grownBy_alloc w3 (.cells #[.int .i64 k1] 3) (some r))) hA (Nat.le_refl _) hgrow)
        have e : ys.map (Value.int .i64) ++ [Value.int .i64 k1] = (ys ++ [k1]).map (Value.int .i64) := by simp
        rw [e, show ys.length + 1 = (ys ++ [k1]).length by simp] at hown'
        have Ho := Lib.hid hown'
        clear hown hown' hgrow hA e hr3 hgr
        go_wp2
        go_roundw
        case rel => exact ⟨ys ++ [k1], by simp; omega, by simp, Ho.out, hr4.out.mono (by simp; omega), hg4.out⟩
        case measure => simp [intOf]; omega
    · go_wp2_with fail
      refine (odd_any _ _ _ _ hrr (by omega) (by omega) (by omega)).mono ?_
      rintro e w3 ⟨q, rfl, hr3, hg3⟩
      replace hown := own_apartI hown hlr hg3
      replace hgr := grownBy_trans hgr hg3
      clear hg3 hrr
      cases q
      · obtain ⟨b, cb, rfl, hcap, hSt, hbl⟩ := own_ints (by unfold maxLen; omega) hown
        have HS := Lib.hid hSt
        clear hSt hown hbl
        go_wp2_with fail
        go_ret3
        exact ⟨n, xs, ys, a, b, ca, cb, rfl, n1, n2, x1, x2, by omega, HX.out.kept hgr (fun x hx e => by have := HXr.out x hx; cases e; omega), HS.out, grownBy_trans hgg.out hgr⟩
      · go_wp2_with (at_builtin; refine wpList_append_own _ rfl _ _ 29 rfl w2.heap.size 3 i0 (.int .i64 0) 1 8 Try.underlying29 hi hz0 hz1 hz2 rfl (by decide) _ _ _ rfl (World.ownsRow.alloc hown _) ⟨w3.heap.size, 0, none⟩ 1 1 [.int .i64 0] rfl rfl ?c1 ?c2 ?c3 ?c4 ?c5 ?_)
        case c1 =>
          intro j u hj
          match j, hj with
          | 0, hj => simp at hj; subst hj; simp [Addr.add]
        case c2 => intro u hu; simp at hu; subst hu; rfl
        case c3 => unfold maxLen; omega
        case c4 => omega
        case c5 => have := hgr.size; simp; omega
        intro v' w4 hown' hgrow _
        have hA := World.ownsRow.alloc hown (.cells #[.int .i64 0] 3)
        have hg4 := Lib.hid (grownBy_rowI (grownBy_trans hgr (World.grownBy_alloc w3 (.cells #[.int .i64 0] 3) (some r))) hA (Nat.le_refl _) hgrow)
        have e : ys.map (Value.int .i64) ++ [Value.int .i64 0] = (ys ++ [0]).map (Value.int .i64) := by simp
        rw [e, show ys.length + 1 = (ys ++ [0]).length by simp] at hown'
        obtain ⟨b, cb, rfl, hcap, hSt, hbl⟩ := own_ints (by unfold maxLen; simp; omega) hown'
        have HS := Lib.hid hSt
        have hl6 : (ys ++ [0]).length ≤ 6 := by simp; omega
        clear hSt hown hown' hbl e hA hgrow hgr
        generalize ys ++ [0] = zs at *
        go_wp2_with fail
        go_ret3
        exact ⟨n, xs, zs, a, b, ca, cb, rfl, n1, n2, x1, x2, hl6, HX.out.kept hg4.out (fun x hx e => by have := HXr.out x hx; cases e; omega), HS.out, grownBy_trans hgg.out hg4.out⟩

def Rows2Post (w : World) (e : Ending) (w' : World) : Prop :=
  ∃ (n : Int) (xs ys : List Int) (a b : Option Addr) (ca cb : Nat), e = .returned (.tuple #[.int .i64 n, .slice a xs.length ca, .slice b ys.length cb]) ∧ -1 ≤ n ∧ n ≤ 7 ∧ 1 ≤ xs.length ∧ xs.length ≤ 5 ∧ ys.length ≤ 6 ∧ IntsAt w' a xs ∧ IntsAt w' b ys ∧ w.grownBy w' none

theorem DrawRowFar_any (a : Option Addr) (len cap : Nat) (zs : List Int) (w : World) (h : IsRow .u8 w a len cap zs) :
    Calls Try.prog 30 #[.slice a len cap] w (Rows2Post w) := by
  go_enter Try.func30, Try.ntmps30
  go_wp2_with fail
  refine (open_draw a len cap zs _ h).mono ?_
  rintro e w1 ⟨rfl, hr1, hg1⟩
  clear h
  go_wp2_with fail
  refine (rows_draw _ _ _ hr1 (by omega)).mono ?_
  rintro e w2 ⟨n, xs, ys, b, c, cb, cc, rfl, h1, h2, h3, h4, h5, h6, h7, hg2⟩
  have H6 := Lib.hid h6
  have H7 := Lib.hid h7
  clear h6 h7
  go_wp2_with fail
  go_ret3
  exact ⟨n, xs, ys, b, c, cb, cc, rfl, h1, h2, h3, h4, h5, H6.out, H7.out, grownBy_own hg1 hg2⟩

theorem DrawRowAlike_any (a : Option Addr) (len cap : Nat) (zs : List Int) (w : World) (h : IsRow .u8 w a len cap zs) :
    Calls Try.prog 34 #[.slice a len cap] w (Rows2Post w) := by
  go_enter Try.func34, Try.ntmps34
  go_wp2_with fail
  refine (open_draw a len cap zs _ h).mono ?_
  rintro e w1 ⟨rfl, hr1, hg1⟩
  clear h
  go_wp2_with fail
  refine (rows_draw _ _ _ hr1 (by omega)).mono ?_
  rintro e w2 ⟨n, xs, ys, b, c, cb, cc, rfl, h1, h2, h3, h4, h5, h6, h7, hg2⟩
  have H6 := Lib.hid h6
  have H7 := Lib.hid h7
  clear h6 h7
  go_wp2_with fail
  go_ret3
  exact ⟨n, xs, ys, b, c, cb, cc, rfl, h1, h2, h3, h4, h5, H6.out, H7.out, grownBy_own hg1 hg2⟩

theorem DrawFarOf_any (a : Option Addr) (len cap : Nat) (zs : List Int) (w : World) (h : IsRow .u8 w a len cap zs) :
    Calls Try.prog 15 #[.slice a len cap] w (Three w) := by
  go_enter Try.func15, Try.ntmps15
  go_wp2_with fail
  refine (open_draw a len cap zs _ h).mono ?_
  rintro e w1 ⟨rfl, hr1, hg1⟩
  clear h
  go_wp2_with fail
  refine (two_draw _ _ _ hr1 (by omega)).mono ?_
  rintro e w2 ⟨n, v, u, rfl, h1, h2, h3, h4, h5, h6, hr2, hg2⟩
  go_wp2_with fail
  go_ret3
  exact ⟨n, v, u, rfl, h1, h2, h3, h4, h5, h6, grownBy_own hg1 hg2⟩

theorem DrawAlikeOf_any (a : Option Addr) (len cap : Nat) (zs : List Int) (w : World) (h : IsRow .u8 w a len cap zs) :
    Calls Try.prog 23 #[.slice a len cap] w (Three w) := by
  go_enter Try.func23, Try.ntmps23
  go_wp2_with fail
  refine (open_draw a len cap zs _ h).mono ?_
  rintro e w1 ⟨rfl, hr1, hg1⟩
  clear h
  go_wp2_with fail
  refine (two_draw _ _ _ hr1 (by omega)).mono ?_
  rintro e w2 ⟨n, v, u, rfl, h1, h2, h3, h4, h5, h6, hr2, hg2⟩
  go_wp2_with fail
  go_ret3
  exact ⟨n, v, u, rfl, h1, h2, h3, h4, h5, h6, grownBy_own hg1 hg2⟩

theorem DrawMovesOf_any (a : Option Addr) (len cap : Nat) (zs : List Int) (w : World) (h : IsRow .u8 w a len cap zs) :
    Calls Try.prog 37 #[.slice a len cap] w (LaPost w) := by
  go_enter Try.func37, Try.ntmps37
  go_wp2_with fail
  refine (DrawLeastAt_any a len cap zs _ h).mono ?_
  rintro e w1 ⟨n, s, rfl, h1, h2, h3, hg⟩
  clear h
  go_wp2_with fail
  go_ret2
  exact ⟨n, s, rfl, h1, h2, h3, hg⟩

end Go.Proofs.Ytbalikemmilnaaa
