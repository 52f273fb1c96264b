/-
  The draws of chapter 12: a desk.
-/
import Derived.Test.YtlnffpofbfigaaaGreatDoorDDkA
import Derived.Deep.DeepCutAuto
import Derived.Deep.CutRange
namespace Go.Proofs.YtlnffpofbfigaaaGreatDoor
open Go.RowKit

/-- A deed was drawn and done: what lies where ahead of what becomes of it. -/
def XGot (w0 : World) (b r Q : Nat) (m : Int) (s : List UInt8) (a : Option Addr) (cap : Nat) (xs : List Ld) (pv bv : Value) (wc : World) : Prop :=
  ∃ (c : Nat) (m2 : Int) (s2 : List UInt8) (xs2 : List Ld) (ok : Bool) (a2 : Option Addr) (cap2 : Nat), pv = .pointer (some ⟨c, 0, none⟩) ∧ bv = .bool ok ∧ BaseD w0 b r Q wc (.int .i64 m) (.string (bs s)) (.slice a xs.length cap) ∧ Own2 wc w0.heap.size a cap xs ∧ CellsAt wc c #[.int .i64 m2, .string (bs s2), .slice a2 xs2.length cap2] 32 ∧ (ok = true → xs2.length ≤ xs.length + 1 ∧ Own2 wc w0.heap.size a2 cap2 xs2) ∧ w0.heap.size < c ∧ c ≠ b
theorem XGot.new {w0 W : World} {b r Q : Nat} {m m2 : Int} {s s2 : List UInt8} {a a2 : Option Addr} {cap cap2 : Nat} {xs xs2 : List Ld} {ok : Bool} (h : BaseD w0 b r Q W (.int .i64 m) (.string (bs s)) (.slice a xs.length cap)) (o : Own2 W w0.heap.size a cap xs) (k : ok = true → xs2.length ≤ xs.length + 1 ∧ Own2 W w0.heap.size a2 cap2 xs2) :
    XGot w0 b r Q m s a cap xs (.pointer (some ⟨W.heap.size, 0, none⟩)) (.bool ok) (W.alloc (.cells #[.int .i64 m2, .string (bs s2), .slice a2 xs2.length cap2] 32)) :=
  ⟨_, m2, s2, xs2, ok, a2, cap2, rfl, rfl, h.alloc _, o.kept (World.grownBy_alloc _ _ none), CellsAt.new W _ _, fun e => ⟨(k e).1, (k e).2.kept (World.grownBy_alloc _ _ none)⟩, h.2.1.lt, by have := h.1.lt; omega⟩
theorem XGot.old {w0 W : World} {b c r Q : Nat} {m m2 : Int} {s s2 : List UInt8} {a a2 : Option Addr} {cap cap2 : Nat} {xs xs2 : List Ld} {ok : Bool} {x y z : Value} (h : BaseD w0 b r Q W (.int .i64 m) (.string (bs s)) (.slice a xs.length cap)) (o : Own2 W w0.heap.size a cap xs) (k : ok = true → xs2.length ≤ xs.length + 1 ∧ Own2 W w0.heap.size a2 cap2 xs2) (hz : CellsAt W c #[x, y, z] 32) (hc : w0.heap.size < c) (hne : c ≠ b) (hr : r < w0.heap.size) :
    XGot w0 b r Q m s a cap xs (.pointer (some ⟨c, 0, none⟩)) (.bool ok) (((W.setCell ⟨c, 0, none⟩ (.int .i64 m2)).setCell ⟨c, 1, none⟩ (.string (bs s2))).setCell ⟨c, 2, none⟩ (.slice a2 xs2.length cap2)) :=
  ⟨c, m2, s2, xs2, ok, a2, cap2, rfl, rfl, h.aside hc hne hr _ _ _, o.put3 (dkB_at hz) _ _ _, hz.put3 _ _ _, fun e => ⟨(k e).1, (k e).2.put3 (dkB_at hz) _ _ _⟩, hc, hne⟩

set_option maxRecDepth 8000 in
set_option maxHeartbeats 16000000 in
theorem desk_draw (HD : DeedC) (n : Int) (w : World) (r P : Nat) (hr : Rd w r P) (hP : P ≤ 40000) (hn : 1 ≤ n) (hn2 : n ≤ 1000) :
    Calls Tryz.prog 46 #[.pointer (some ⟨r, 0, none⟩), .int .i64 n] w (DDPost r P w) := by
  unfold DeedC at HD
  have hlt := hr.lt
  have hr0 := hr.alloc (.cells #[.int .i64 0, .string ⟨#[]⟩, .slice none 0 0] 32)
  go_enter Tryz.func46, Tryz.ntmps46
  go_wp2_with fail
  have hRB := CellsAt.new w #[.int .i64 0, .string ⟨#[]⟩, .slice none 0 0] 32
  have hg0 := World.grownBy_alloc w (.cells #[.int .i64 0, .string ⟨#[]⟩, .slice none 0 0] 32) (some r)
  generalize w.alloc (.cells #[.int .i64 0, .string ⟨#[]⟩, .slice none 0 0] 32) = W0 at *
  refine (pick_any _ _ _ _ hr0 (by omega)).mono ?_
  rintro e w1 ⟨i, rfl, hi0, hi1, hr1, hg1⟩
  go_wp2_with fail
  have hin : inB (1 + i) 1 6 = true := inB_t (by omega)
  have cn := snew_any (1 + i) w1
  have e1 : newK (1 + i) = ((1 + i, [97]), []) := by unfold newK; rw [hin]; rfl
  rw [hin, e1] at cn
  unfold dkV at cn
  refine cn.mono ?_
  rintro e w2 ⟨rfl, hg2⟩
  have g02 := grownBy_trans hg0 (grownBy_trans hg1 (grown_none hg2))
  have hR2 := (hRB.kept hg1 (by simp; omega)).grown hg2
  have hr2 := hr1.grown hg2
  have hA := CellsAt.new w2 #[.int .i64 (1 + i), .string (bs [97]), .slice none ([] : List Ld).length 0] 32
  clear hRB hg0 hg1 hg2 hr0 hr1 cn hin e1
  have hbs : bs [97] = ⟨#[97]⟩ := rfl
  rw [hbs] at hA
  have hgA := World.grownBy_alloc w2 (.cells #[.int .i64 (1 + i), .string ⟨#[97]⟩, .slice none ([] : List Ld).length 0] 32) none
  have hb0 : w.heap.size < w2.heap.size := hR2.lt
  go_wp2_with fail
  change Calls _ _ _ (w2.alloc (.cells #[.int .i64 (1 + i), .string ⟨#[97]⟩, .slice none ([] : List Ld).length 0] 32)) _
  generalize w2.alloc (.cells #[.int .i64 (1 + i), .string ⟨#[97]⟩, .slice none ([] : List Ld).length 0] 32) = W3 at *
  have hR3 := hR2.grown hgA
  have hr3 := hr2.grown hgA
  have g03 := grownBy_trans g02 (grown_none hgA)
  generalize hbb : w2.heap.size = b at *
  clear hR2 hr2 g02 hgA hbb hbs
  refine (pick_any _ _ _ _ hr3 (by omega)).mono ?_
  rintro e w4 ⟨j0, rfl, hj0, hj1, hr4, hg4⟩
  obtain ⟨j0, rfl⟩ := Int.eq_ofNat_of_zero_le hj0
  have hInit : Hid (DkL w b r P (.int .i64 (j0 : Int)) w4) := ⟨j0, ((1 + i, [97]), []), none, 0, rfl, by omega, by simp; omega, hA.kept hg4 (by simp; omega), Own2.nil _ _, hr4.mono (by omega), grownBy_trans g03 hg4, hR3.kept hg4 (by simp; omega)⟩
  clear hA hR3 hr3 g03 hr4 hg4
  go_wp2_with fail
  go_loopw [7] (fun k wr => DkL w b r P k wr) (fun k _ => (intOf k).toNat)
  case atStart => exact hInit.out
  case round =>
    obtain ⟨j, d, a, cap, rfl, hj5, hdj, hBd, ho, hrr, hgw, hR⟩ := hrel
    obtain ⟨⟨m, s⟩, xs⟩ := d
    have hlrb : r < b := by omega
    obtain ⟨⟨d0, d1, d2⟩, f0, f1, f2⟩ := three_facts hBd
    by_cases hz : j = 0
    · subst hz
      have hx5 : xs.length ≤ 5 := hdj
      go_wp2_with fail
      refine (odd_any _ _ _ _ hrr (by omega) hn hn2).mono ?_
      rintro e wo ⟨bo, rfl, hro, hgo⟩
      have BB := Lib.hid (show BaseD w b r (P + 502 - 0 * 100 + 1) wo (.int .i64 m) (.string (bs s)) (.slice a xs.length cap) from ⟨hBd.kept hgo (by simp; omega), hR.kept hgo (by simp; omega), hro, grownBy_trans hgw hgo⟩)
      have OO := Lib.hid (ho.past hgo (by omega))
      obtain ⟨⟨d0, d1, d2⟩, f0, f1, f2⟩ := three_facts BB.out.1
      obtain ⟨⟨z0, z1, z2⟩, y0, y1, y2⟩ := three_facts BB.out.2.1
      clear hBd ho hR hgw hgo hrr
      cases bo
      · have E := Lib.hid (desk_end (P := P) BB.out OO.out rfl hlt (by omega))
        go_wp2_with fail
        exact bodyPost_ret (v := .agg #[.int .i64 m, .string (bs s), .slice a xs.length cap]) (resDk rfl _ rfl E.out.1) rfl E.out.2
      · go_wp2_with fail
        refine (pick_any _ _ _ _ hro (by omega)).mono ?_
        rintro e wp ⟨kp, rfl, hp0, hp1, hrp, hgp⟩
        have BP := Lib.hid (show BaseD w b r (P + 502 - 0 * 100 + 1 + 1) wp (.int .i64 m) (.string (bs s)) (.slice a xs.length cap) from ⟨BB.out.1.kept hgp (by simp; omega), BB.out.2.1.kept hgp (by simp; omega), hrp, grownBy_trans BB.out.2.2.2 hgp⟩)
        have OP := Lib.hid (OO.out.past hgp (by omega))
        obtain ⟨⟨d0, d1, d2⟩, f0, f1, f2⟩ := three_facts BP.out.1
        obtain ⟨⟨z0, z1, z2⟩, y0, y1, y2⟩ := three_facts BP.out.2.1
        have lbp := BP.out.1.lt
        have lhp := BP.out.2.1.lt
        clear hgp
        obtain rfl | rfl | rfl : kp = 0 ∨ kp = 1 ∨ kp = 2 := by omega
        · have B1 := Lib.hid (show BaseD w b r (P + 502 - 0 * 100 + 1 + 1) (wp.setCell ⟨b, 0, none⟩ (.int .i64 0)) (.int .i64 0) (.string (bs s)) (.slice a xs.length cap) from ⟨BP.out.1.set 0 (.int .i64 0), BP.out.set (by omega) hlt 0 _⟩)
          obtain ⟨⟨t0, t1, t2⟩, v0, v1, v2⟩ := three_facts B1.out.2.1
          have E := Lib.hid (desk_end (P := P) B1.out (OP.out.beside ⟨_, BP.out.1⟩ (grownBy_set wp b 0 _)) rfl hlt (by omega))
          go_wp2_with fail
          exact bodyPost_ret (v := .agg #[.int .i64 0, .string (bs s), .slice a xs.length cap]) (resDk rfl _ rfl E.out.1) rfl E.out.2
        · have B1 := Lib.hid (show BaseD w b r (P + 502 - 0 * 100 + 1 + 1) (wp.setCell ⟨b, 1, none⟩ (.string ⟨#[97, 62]⟩)) (.int .i64 m) (.string ⟨#[97, 62]⟩) (.slice a xs.length cap) from ⟨BP.out.1.set 1 (.string ⟨#[97, 62]⟩), BP.out.set (by omega) hlt 1 _⟩)
          obtain ⟨⟨t0, t1, t2⟩, v0, v1, v2⟩ := three_facts B1.out.2.1
          have E := Lib.hid (desk_end (P := P) B1.out (OP.out.beside ⟨_, BP.out.1⟩ (grownBy_set wp b 1 _)) rfl hlt (by omega))
          go_wp2_with fail
          exact bodyPost_ret (v := .agg #[.int .i64 m, .string ⟨#[97, 62]⟩, .slice a xs.length cap]) (resDk rfl _ rfl E.out.1) rfl E.out.2
        · obtain ⟨i0, hi, hy0, hy1, hy2⟩ := info_parts infoLd
          have OQ := Lib.hid (OP.out.kept (World.grownBy_alloc _ (.cells #[.int .i64 0, .string ⟨#[]⟩] 29) none))
          have BQ := Lib.hid (BP.out.alloc (.cells #[.int .i64 0, .string ⟨#[]⟩] 29))
          go_wp2_with (at_builtin; refine wpList_append_own _ rfl _ _ 30 rfl w.heap.size 29 i0 (.agg #[.int .i64 0, .string ⟨#[]⟩]) 2 24 Tryz.underlying30 hi hy0 hy1 hy2 rfl (by decide) _ _ _ rfl OQ.out ⟨wp.heap.size, 0, none⟩ 1 1 (ldC [nilLd]) rfl rfl (World.news_of_block (CellsAt.new wp #[.int .i64 0, .string ⟨#[]⟩] 29)) (ldC_one [nilLd]) (by unfold maxLen; omega) (by omega) (by have := BQ.out.2.1.lt; omega) ?_; intro v' w4 hown' hgrow _; obtain ⟨a4, cap4, rfl, ho4⟩ := own2_more hown'; have B4 := Lib.hid (BQ.out.own OQ.out hlt hgrow); have O4 := Lib.hid ho4; obtain ⟨⟨d0, d1, d2⟩, f0, f1, f2⟩ := three_facts B4.out.1; obtain ⟨⟨z0, z1, z2⟩, y0, y1, y2⟩ := three_facts B4.out.2.1; have B5 := Lib.hid (show BaseD w b r (P + 502 - 0 * 100 + 1 + 1) (w4.setCell ⟨b, 2, none⟩ (.slice a4 (xs.length + 1) cap4)) (.int .i64 m) (.string (bs s)) (.slice a4 (xs.length + 1) cap4) from ⟨B4.out.1.set 2 (.slice a4 (xs.length + 1) cap4), B4.out.set (by omega) hlt 2 _⟩); obtain ⟨⟨t0, t1, t2⟩, v0, v1, v2⟩ := three_facts B5.out.2.1; have E := Lib.hid (desk_end (P := P) (xs := xs ++ [nilLd]) B5.out (O4.out.beside ⟨_, B4.out.1⟩ (grownBy_set w4 b 2 _)) (by simp) hlt (by omega)); clear ho4 hown' hgrow)
          exact bodyPost_ret (v := .agg #[.int .i64 m, .string (bs s), .slice a4 (xs.length + 1) cap4]) (resDk rfl _ rfl E.out.1) rfl E.out.2
    · have HB := Lib.hid hBd
      have HO := Lib.hid ho
      have HR := Lib.hid hR
      have HG := Lib.hid hgw
      have hrl := hrr.lt
      change xs.length + j ≤ 5 at hdj
      have hpos : 0 < (j : Int) := by omega
      clear hBd ho hR hgw
      go_wp2_with fail
      have lbw := HB.out.lt
      go_cut [8, 9] from 19 to 31 (fun pv bv wc => XGot w b r (P + 502 - j * 100 + 100) m s a cap xs pv bv wc)
      case first =>
        go_region_with (first | (go_at_call 95; (with_reducible refine (HD _ r (P + 502 - j * 100) (by first | with_reducible exact hrr.drewn | with_reducible exact (hrr.alloc _).drewn) (by omega)).mono ?_); rintro e wa ⟨DD, rfl, hDl, hra, hga⟩; have h1 := Lib.hid (show wr.grownBy wa (some r) from grownBy_trans (by first | exact grownBy_drew (grownBy_refl _ _) | exact grownBy_drew (World.grownBy_alloc _ _ _)) hga); have HBa := Lib.hid (HB.out.kept h1.out (by simp; omega)); have HOa := Lib.hid (HO.out.past h1.out (by omega)); obtain ⟨⟨d0, d1, d2⟩, f0, f1, f2⟩ := three_facts HBa.out; have lba := HBa.out.lt; (first | (with_reducible have HA := Lib.hid (nf_1 (grownBy_undrew hga) hrl)) | skip); (first | (obtain ⟨⟨q0, q1, q2⟩, j0', j1', j2'⟩ := three_facts HA.out; have hal := HA.out.lt) | skip)) | (go_at_call 61; (with_reducible refine (sdo_drawn m s xs a cap w.heap.size (by omega) _ DD (by first | with_reducible exact HOa.out | with_reducible exact HOa.out.kept (World.grownBy_alloc _ _ none)) (by first | exact (grownBy_trans HG.out h1.out).size | exact Nat.le_trans (grownBy_trans HG.out h1.out).size (World.grownBy_alloc _ _ none).size)).mono ?_); rintro e wb ⟨m2, s2, xs2, ok, a2, cap2, rfl, hok, hgb⟩; have h2 := Lib.hid (show wa.grownBy wb none from grownBy_trans (by first | exact grownBy_refl _ _ | exact World.grownBy_alloc _ _ _) hgb); have HBb := Lib.hid (HBa.out.grown h2.out); obtain ⟨⟨d0, d1, d2⟩, f0, f1, f2⟩ := three_facts HBb.out; have lbb := HBb.out.lt; (first | (with_reducible have HZ := Lib.hid (HA.out.grown hgb)) | (with_reducible have HZ := Lib.hid (nf_2 hgb)) | skip); (first | (obtain ⟨⟨q0, q1, q2⟩, j0', j1', j2'⟩ := three_facts HZ.out; have hzl := HZ.out.lt) | skip)))
        all_goals
          have BB := Lib.hid (show BaseD w b r (P + 502 - j * 100 + 100) wb (.int .i64 m) (.string (bs s)) (.slice a xs.length cap) from ⟨HBb.out, (HR.out.kept h1.out (by simp; omega)).grown h2.out, hra.grown h2.out, grownBy_trans (grownBy_trans HG.out h1.out) (grown_none h2.out)⟩)
          have OO := Lib.hid (HOa.out.kept h2.out)
          have hja : j - 1 ≤ 5 := by omega
          have hjq : P + 502 - j * 100 + 100 ≤ P + 502 - (j - 1) * 100 := by omega
          have sza : w.heap.size < wa.heap.size := (HR.out.kept h1.out (by simp; omega)).lt
          have szr : w.heap.size < wr.heap.size := HR.out.lt
        all_goals go_wp2_with fail
        all_goals go_meet
        all_goals first
          | with_reducible exact XGot.new BB.out OO.out hok
          | with_reducible exact XGot.old BB.out OO.out hok HZ.out (by omega) (by omega) hlt
          | (trace_state; fail)
      case rest =>
        obtain ⟨c, m2, s2, xs2, ok, a2, cap2, rfl, rfl, hBB, hOO, hC, hok, hc0, hcb⟩ := hcut
        have BB := Lib.hid hBB
        have OO := Lib.hid hOO
        have HC := Lib.hid hC
        have HK := Lib.hid hok
        clear hBB hOO hC hok HB HO HR HG hrr hpos
        obtain ⟨⟨d0, d1, d2⟩, f0, f1, f2⟩ := three_facts BB.out.1
        obtain ⟨⟨q0, q1, q2⟩, j0', j1', j2'⟩ := three_facts HC.out
        have hja : j - 1 ≤ 5 := by omega
        have hjq : P + 502 - j * 100 + 100 ≤ P + 502 - (j - 1) * 100 := by omega
        have hkk : Value.int .i64 ((j : Int) - 1) = .int .i64 ((j - 1 : Nat) : Int) := by congr 1; omega
        cases ok
        · go_wp2_with fail
          go_roundw
          case rel => exact DkL.mk BB.out OO.out hkk hja (by omega) hjq
          case measure => simp [intOf]; omega
        · have hl2 := (HK.out rfl).1
          go_wp2_with fail
          go_roundw
          case rel => exact DkL.mk (BB.out.put (by omega) hlt _ _ _) ((HK.out rfl).2.put3 (dkB_at BB.out.1) _ _ _) hkk hja (by omega) hjq
          case measure => simp [intOf]; omega

end Go.Proofs.YtlnffpofbfigaaaGreatDoor
