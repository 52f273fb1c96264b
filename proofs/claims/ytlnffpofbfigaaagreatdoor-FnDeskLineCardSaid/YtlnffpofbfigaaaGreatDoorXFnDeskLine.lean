/-
  Joined out of the texts DIDo, DRun, DUa, DVj, ASpec2, AChainS, DVk, DVl, SPrem, SPrem2, SPrem3, DVm, DVn, DDk, DYa, DYb, DLd, DLz: what each holds is told at its head.
-/
import Derived.Test.YtlnffpofbfigaaaGreatDoorZFnDeskLine
import Derived.Test.YtlnffpofbfigaaaGreatDoorYFnDeskLine
import Derived.Test.YtlnffpofbfigaaaGreatDoorDLay2
import Derived.Test.YtlnffpofbfigaaaGreatDoorDDo2
import Derived.Deep.RegionHeld3
import Derived.Deep.CutRange
import Derived.Test.YtlnffpofbfigaaaGreatDoorDCl
import Derived.Test.YtlnffpofbfigaaaGreatDoorFSpecV
import Derived.Test.YtlnffpofbfigaaaGreatDoorFSpec
import Derived.Deep.DeepCutAuto
import Derived.Test.YtlnffpofbfigaaaGreatDoorFDraw2
import Derived.Test.YtlnffpofbfigaaaGreatDoorDDraw
import Derived.Test.YtlnffpofbfigaaaGreatDoorDTc
import Derived.Test.YtlnffpofbfigaaaGreatDoorDSame
import Derived.Test.YtlnffpofbfigaaaGreatDoorRows
import Derived.ProofKit
import Derived.OpenShut
import Derived.OpenVars
import Derived.LaidMore
import Derived.Stop.Joined
import Derived.Stop.LaidErr

/-
  What a deed makes of a desk: impl's DeskDo.
-/
namespace Go.Proofs.YtlnffpofbfigaaaGreatDoor
open Go.RowKit

theorem do_post' {w w' : World} {base : Nat} {a : Option Addr} {r : Dk × Bool} {cap : Nat} {u v s : Value} {b : Bool} (hg : w.grownBy w' none) (ho : OwnL w' base a r.1.2) (hb : w.heap.size + 3 ≤ base) (h0 : a = none → cap = 0) (hu : u = .int .i64 r.1.1.1) (hv : v = .string (bs r.1.1.2)) (hs : s = .slice a r.1.2.length cap) (hr : b = r.2) :
    DoPost r w (.returned (.tuple #[.agg #[u, v, s], .bool b])) (((w'.setCell ⟨w.heap.size + 1 + 1, 0, none⟩ u).setCell ⟨w.heap.size + 1 + 1, 1, none⟩ v).setCell ⟨w.heap.size + 1 + 1, 2, none⟩ s) := by
  obtain ⟨⟨x, xs⟩, b'⟩ := r
  change b = b' at hr
  subst hr
  exact do_post hg (ho.mono hb) h0 hu hv hs

set_option maxRecDepth 8000 in
set_option maxHeartbeats 1000000 in
theorem ido_bad (x : Ld) (xs : List Ld) (dk dn : Int) (dt : List UInt8) (a : Option Addr) (cap : Nat) (w : World) (h : LdsAt w a xs) (hd : dkB (x, xs) = false) :
    Calls Tryz.prog 52 #[dkV (x, xs) a cap, ddV (dk, dn, dt)] w (DoPost (nilDk, false) w) := by
  have hb := box3_new w (x, xs) a cap dk dn (bs dt)
  have g3 := made3 w (.cells #[.int .i64 x.1, .string (bs x.2), .slice a xs.length cap] 32) (.cells #[.int .i64 dk, .int .i64 dn, .string (bs dt)] 40) (.cells zeroDk 32)
  have hz := size3 w (.cells #[.int .i64 x.1, .string (bs x.2), .slice a xs.length cap] 32) (.cells #[.int .i64 dk, .int .i64 dn, .string (bs dt)] 40) (.cells zeroDk 32)
  have ck := idesk_any (x, xs) a cap _ (h.grown g3)
  rw [hd] at ck
  have HB := Lib.hid hb
  have G3 := Lib.hid g3
  have HZ := Lib.hid hz
  clear h hb g3 hz
  unfold dkV at *
  unfold ddV
  go_enter Tryz.func52, Tryz.ntmps52
  go_wp2_with (first | (go_at_call 23; refine ck.mono ?_; rintro e w1 ⟨rfl, hg⟩; obtain ⟨⟨d0, d1, d2⟩, ⟨e0, e1, e2⟩, ⟨r0, r1, r2⟩, f0, f1, f2⟩ := (HB.out.grown hg).facts))
  have F := (HB.out.grown hg).2.2.put3 (.int .i64 0) (.string ⟨#[]⟩) (.slice none 0 0)
  have P := do_post (x := nilLd) (b := false) (u := .int .i64 0) (v := .string ⟨#[]⟩) (s := .slice none 0 0) (cap := 0) (xs := []) (grownBy_trans G3.out hg) (OwnL.nil _ _ none) (fun _ => rfl) rfl rfl rfl
  exact bodyPost_ret (v := .tuple #[.agg #[.int .i64 0, .string ⟨#[]⟩, .slice none 0 0], .bool false]) (resDkB (b := .bool false) rfl _ rfl rfl F) rfl P

set_option maxRecDepth 8000 in
set_option maxHeartbeats 1000000 in
theorem ido_names (x : Ld) (xs : List Ld) (dk dn : Int) (dt : List UInt8) (a : Option Addr) (cap : Nat) (w : World) (h : LdsAt w a xs) (h0 : a = none → cap = 0) (hd : dkB (x, xs) = true) (hn : namesB (dk, dn, dt) = false) :
    Calls Tryz.prog 52 #[dkV (x, xs) a cap, ddV (dk, dn, dt)] w (DoPost ((x, xs), false) w) := by
  have hl := (dkB_of hd).2.2
  change xs.length ≤ 8 at hl
  have hb := box3_new w (x, xs) a cap dk dn (bs dt)
  have g3 := made3 w (.cells #[.int .i64 x.1, .string (bs x.2), .slice a xs.length cap] 32) (.cells #[.int .i64 dk, .int .i64 dn, .string (bs dt)] 40) (.cells zeroDk 32)
  have hz := size3 w (.cells #[.int .i64 x.1, .string (bs x.2), .slice a xs.length cap] 32) (.cells #[.int .i64 dk, .int .i64 dn, .string (bs dt)] 40) (.cells zeroDk 32)
  have ck := idesk_any (x, xs) a cap _ (h.grown g3)
  rw [hd] at ck
  have HB := Lib.hid hb
  have G3 := Lib.hid g3
  have HZ := Lib.hid hz
  have cn := names_any (dk, dn, dt)
  rw [hn] at cn
  have cc := fun w1 (hg : World.grownBy _ w1 none) => copied_any (x, xs) a cap w1 ((h.grown g3).grown hg) h0 (by show xs.length ≤ 9; omega)
  clear h hb g3 hz h0 hd hn
  unfold dkV at *
  unfold ddV at *
  go_enter Tryz.func52, Tryz.ntmps52
  go_wp2_with (first | (go_at_call 23; refine ck.mono ?_; rintro e w1 ⟨rfl, hg⟩; obtain ⟨⟨d0, d1, d2⟩, ⟨e0, e1, e2⟩, ⟨r0, r1, r2⟩, f0, f1, f2⟩ := (HB.out.grown hg).facts) | (go_at_call 53; refine (cn _).mono ?_; rintro e w2 ⟨rfl, hg2⟩; obtain ⟨⟨d0, d1, d2⟩, ⟨e0, e1, e2⟩, ⟨r0, r1, r2⟩, f0, f1, f2⟩ := ((HB.out.grown hg).grown hg2).facts) | (go_at_call 50; refine (cc _ (grownBy_trans hg hg2)).mono ?_; rintro e w3 ⟨a', cap', rfl, ho, hg3⟩; obtain ⟨⟨d0, d1, d2⟩, ⟨e0, e1, e2⟩, ⟨r0, r1, r2⟩, f0, f1, f2⟩ := (((HB.out.grown hg).grown hg2).grown hg3).facts))
  have F := (((HB.out.grown hg).grown hg2).grown hg3).2.2.put3 (.int .i64 x.1) (.string (bs x.2)) (.slice a' xs.length cap')
  have P := do_post (x := x) (xs := xs) (b := false) (grownBy_trans (grownBy_trans (grownBy_trans G3.out hg) hg2) hg3) (ho.l.mono (by have := hg.size; have := hg2.size; have := HZ.out; omega)) ho.bare rfl rfl rfl
  exact bodyPost_ret (v := .tuple #[.agg #[.int .i64 x.1, .string (bs x.2), .slice a' xs.length cap'], .bool false]) (resDkB (b := .bool false) rfl _ rfl rfl F) rfl P

set_option maxRecDepth 8000 in
set_option maxHeartbeats 1000000 in
theorem ido_back (x : Ld) (xs : List Ld) (dk dn : Int) (dt : List UInt8) (a : Option Addr) (cap : Nat) (w : World) (h : LdsAt w a xs) (r : Dk × Bool) (hk : dk = 6) (hd : dkB (x, xs) = true) (hn : namesB (dk, dn, dt) = true)
    (cb : ∀ w1, LdsAt w1 a xs → Calls Tryz.prog 101 #[.agg #[.int .i64 x.1, .string (bs x.2), .slice a xs.length cap]] w1 (DoPost r w1)) :
    Calls Tryz.prog 52 #[dkV (x, xs) a cap, ddV (dk, dn, dt)] w (DoPost r w) := by
  have hb := box3_new w (x, xs) a cap dk dn (bs dt)
  have g3 := made3 w (.cells #[.int .i64 x.1, .string (bs x.2), .slice a xs.length cap] 32) (.cells #[.int .i64 dk, .int .i64 dn, .string (bs dt)] 40) (.cells zeroDk 32)
  have hz := size3 w (.cells #[.int .i64 x.1, .string (bs x.2), .slice a xs.length cap] 32) (.cells #[.int .i64 dk, .int .i64 dn, .string (bs dt)] 40) (.cells zeroDk 32)
  have ck := idesk_any (x, xs) a cap _ (h.grown g3)
  rw [hd] at ck
  have HB := Lib.hid hb
  have G3 := Lib.hid g3
  have HZ := Lib.hid hz
  have cn := names_any (dk, dn, dt)
  rw [hn] at cn
  have cc := fun w1 (hg : World.grownBy _ w1 none) => cb w1 ((h.grown g3).grown hg)
  clear h hb g3 hz hd hn cb
  subst hk
  unfold dkV at *
  unfold ddV at *
  obtain ⟨⟨⟨rm, rs⟩, rl⟩, rb⟩ := r
  unfold DoPost dkV at cc
  go_enter Tryz.func52, Tryz.ntmps52
  go_wp2_with (first | (go_at_call 23; refine ck.mono ?_; rintro e w1 ⟨rfl, hg⟩; obtain ⟨⟨d0, d1, d2⟩, ⟨e0, e1, e2⟩, ⟨r0, r1, r2⟩, f0, f1, f2⟩ := (HB.out.grown hg).facts) | (go_at_call 53; refine (cn _).mono ?_; rintro e w2 ⟨rfl, hg2⟩; obtain ⟨⟨d0, d1, d2⟩, ⟨e0, e1, e2⟩, ⟨r0, r1, r2⟩, f0, f1, f2⟩ := ((HB.out.grown hg).grown hg2).facts) | (go_at_call 101; refine (cc _ (grownBy_trans hg hg2)).mono ?_; rintro e w3 ⟨a', cap', rfl, ho, h0', hg3⟩; obtain ⟨⟨d0, d1, d2⟩, ⟨e0, e1, e2⟩, ⟨r0, r1, r2⟩, f0, f1, f2⟩ := (((HB.out.grown hg).grown hg2).grown hg3).facts))
  have F := (((HB.out.grown hg).grown hg2).grown hg3).2.2.put3 (.int .i64 rm) (.string (bs rs)) (.slice a' rl.length cap')
  have P := do_post (x := (rm, rs)) (xs := rl) (b := rb) (grownBy_trans (grownBy_trans (grownBy_trans G3.out hg) hg2) hg3) (ho.mono (by have := hg.size; have := hg2.size; have := HZ.out; omega)) h0' rfl rfl rfl
  exact bodyPost_ret (v := .tuple #[.agg #[.int .i64 rm, .string (bs rs), .slice a' rl.length cap'], .bool rb]) (resDkB (b := .bool rb) rfl _ rfl rfl F) rfl P

set_option maxRecDepth 8000 in
set_option maxHeartbeats 1000000 in
theorem ido_lay (x : Ld) (xs : List Ld) (dk dn : Int) (dt : List UInt8) (a : Option Addr) (cap : Nat) (w : World) (h : LdsAt w a xs) (h0 : a = none → cap = 0) (hk : dk ≠ 6) (hd : dkB (x, xs) = true) (hn : namesB (dk, dn, dt) = true) (ht : dt.length ≤ 4000000) (y : Ld) (hy : y = aft x (dk, dn, dt)) (r : Dk × Bool) (hr : r = if ldB y = true ∧ y ≠ x then ((y, capP (xs ++ [x])), true) else ((x, xs), false)) :
    Calls Tryz.prog 52 #[dkV (x, xs) a cap, ddV (dk, dn, dt)] w (DoPost r w) := by
  have hl := (dkB_of hd).2.2
  have hx : x.2.length ≤ 60 := isF_len (ldB_of (dkB_of hd).2.1).2
  change xs.length ≤ 8 at hl
  have hb := box3_new w (x, xs) a cap dk dn (bs dt)
  have g3 := made3 w (.cells #[.int .i64 x.1, .string (bs x.2), .slice a xs.length cap] 32) (.cells #[.int .i64 dk, .int .i64 dn, .string (bs dt)] 40) (.cells zeroDk 32)
  have hz := size3 w (.cells #[.int .i64 x.1, .string (bs x.2), .slice a xs.length cap] 32) (.cells #[.int .i64 dk, .int .i64 dn, .string (bs dt)] 40) (.cells zeroDk 32)
  have ck := idesk_any (x, xs) a cap _ (h.grown g3)
  rw [hd] at ck
  have HB := Lib.hid hb
  have G3 := Lib.hid g3
  have HZ := Lib.hid hz
  have cn := names_any (dk, dn, dt)
  rw [hn] at cn
  have ca := aft_any x (dk, dn, dt) hx ht
  unfold AftPost at ca
  rw [← hy] at ca
  have cc := fun w1 (hg : World.grownBy _ w1 none) => lay_any x y xs a cap w1 ((h.grown g3).grown hg) h0 hl
  rw [← hr] at cc
  have hk6 : (dk == 6) = false := beq_false_of_ne hk
  clear h hb g3 hz hd hn hk hx ht hy hr h0
  unfold dkV at *
  unfold ddV at *
  unfold ldV at *
  obtain ⟨m, s⟩ := x
  obtain ⟨k, u⟩ := y
  obtain ⟨⟨⟨rm, rs⟩, rl⟩, rb⟩ := r
  unfold DoPost dkV at cc
  go_enter Tryz.func52, Tryz.ntmps52
  go_wp2_with (first | (go_at_call 23; refine ck.mono ?_; rintro e w1 ⟨rfl, hg⟩; obtain ⟨⟨d0, d1, d2⟩, ⟨e0, e1, e2⟩, ⟨r0, r1, r2⟩, f0, f1, f2⟩ := (HB.out.grown hg).facts) | (go_at_call 53; refine (cn _).mono ?_; rintro e w2 ⟨rfl, hg2⟩; obtain ⟨⟨d0, d1, d2⟩, ⟨e0, e1, e2⟩, ⟨r0, r1, r2⟩, f0, f1, f2⟩ := ((HB.out.grown hg).grown hg2).facts))
  have W2 := Lib.hid ((HB.out.grown hg).grown hg2)
  have CC : ∀ w3, w2.grownBy w3 none → _ := fun w3 hg3 => cc w3 (grownBy_trans (grownBy_trans hg hg2) hg3)
  have g02 := Lib.hid (grownBy_trans (grownBy_trans G3.out hg) hg2)
  have hs2 := Lib.hid (show w.heap.size + 3 ≤ w2.heap.size by have := hg.size; have := hg2.size; have := HZ.out; omega)
  clear cc hg hg2
  go_region_with (first | (go_at_call 103; refine (ca _).mono ?_; rintro e w3 ⟨rfl, hg3⟩; obtain ⟨⟨d0, d1, d2⟩, ⟨e0, e1, e2⟩, ⟨r0, r1, r2⟩, f0, f1, f2⟩ := (W2.out.grown (drew_grown hg3)).facts) | (go_at_call 102; refine (CC _ (drew_grown hg3)).mono ?_; rintro e w4 ⟨a', cap', rfl, ho, h0', hg4⟩; obtain ⟨⟨d0, d1, d2⟩, ⟨e0, e1, e2⟩, ⟨r0, r1, r2⟩, f0, f1, f2⟩ := ((W2.out.grown (drew_grown hg3)).grown hg4).facts))
  all_goals go_wp2
  all_goals
    have F := ((W2.out.grown (drew_grown hg3)).grown hg4).2.2.put3 (.int .i64 rm) (.string (bs rs)) (.slice a' rl.length cap')
    have P := do_post (x := (rm, rs)) (xs := rl) (b := rb) (grownBy_trans (grownBy_trans g02.out (drew_grown hg3)) hg4) (ho.mono (by have := hs2.out; have := (drew_grown hg3).size; omega)) h0' rfl rfl rfl
    exact bodyPost_ret (v := .tuple #[.agg #[.int .i64 rm, .string (bs rs), .slice a' rl.length cap'], .bool rb]) (resDkB (b := .bool rb) rfl _ rfl rfl F) rfl P

/-- What a deed makes of any desk. -/
theorem ido_any (d : Dk) (D : Dd) (a : Option Addr) (cap : Nat) (w : World) (h : LdsAt w a d.2) (h0 : a = none → cap = 0) (ht : D.2.2.length ≤ 4000000) :
    Calls Tryz.prog 52 #[dkV d a cap, ddV D] w (DoPost (doR d D) w) := by
  obtain ⟨x, xs⟩ := d
  obtain ⟨k, n, t⟩ := D
  cases hd : dkB (x, xs)
  · rw [doR_no hd]; exact ido_bad x xs k n t a cap w h hd
  have hl := (dkB_of hd).2.2
  change xs.length ≤ 8 at hl
  cases hn : namesB (k, n, t)
  · obtain ⟨h6, hw⟩ := names_no (x := x) hn
    rw [doR_none hd (doD_none (d := (x, xs)) h6 hw)]
    exact ido_names x xs k n t a cap w h h0 hd hn
  by_cases h6 : k = 6
  · have hD : ((k, n, t) : Dd) = (6, 0, []) := by
      subst h6
      unfold namesB at hn
      simp at hn
      rw [hn.1, hn.2]
    have hr : doR (x, xs) (k, n, t) = doR (x, xs) (6, 0, []) := by rw [hD]
    rw [hr]
    refine ido_back x xs k n t a cap w h _ h6 hd hn fun w1 hw1 => ?_
    obtain ⟨m, s⟩ := x
    cases hp : xs.getLast? with
    | some p =>
      rw [doR_some hd (doD_back (d := ((m, s), xs)) hp)]
      obtain ⟨ys, rfl⟩ : ∃ ys, xs = ys ++ [p] := List.getLast?_eq_some_iff.1 hp
      have hL : (ys ++ [p]).length = ys.length + 1 := by simp
      show Calls _ _ _ _ (DoPost ((p, (ys ++ [p]).dropLast), true) w1)
      rw [List.dropLast_concat, hL]
      exact back_some m s p ys a cap w1 hw1 h0 (by omega)
    | none =>
      have hx0 : xs = [] := List.getLast?_eq_none_iff.1 hp
      rw [doR_none hd (doD_back0 (d := ((m, s), xs)) hx0)]
      subst hx0
      exact back_none m s a cap w1 h0
  · refine ido_lay x xs k n t a cap w h h0 h6 hd hn ht _ rfl _ ?_
    have e := aft_new (x := x) (a := (k, n, t)) (dkB_of hd).2.1 hn h6
    have hne : ((k, n, t) : Dd) ≠ (6, 0, []) := fun q => h6 (congrArg Prod.fst q)
    by_cases hc : ldB (aft x (k, n, t)) = true ∧ aft x (k, n, t) ≠ x
    · rw [if_pos hc] at e
      rw [if_pos hc, doR_some hd (doD_new (d := (x, xs)) hne e)]
    · rw [if_neg hc] at e
      rw [if_neg hc, doR_none hd (doD_none (d := (x, xs)) hne e)]

end Go.Proofs.YtlnffpofbfigaaaGreatDoor

/-
  Deeds one after the other: DeskRun, the program's and the model's.
-/
namespace Go.Proofs.YtlnffpofbfigaaaGreatDoor
open Go.RowKit

def runR (d : Dk) (l : List Dd) : Dk × Nat := if dkB d = true ∧ l.length ≤ 40 then runD d l else (nilDk, 0)
def RunPost (r : Dk × Nat) (w : World) (e : Ending) (w' : World) : Prop := ∃ a cap, e = .returned (.tuple #[dkV r.1 a cap, .int .i64 (r.2 : Int)]) ∧ OwnL w' w.heap.size a r.1.2 ∧ (a = none → cap = 0) ∧ w.grownBy w' none

theorem dds_next {l : List Dd} {i : Nat} (hi : i < l.length) : l.take (i + 1) = l.take i ++ [l.getD i nilDd] := by
  rw [List.take_succ_eq_append_getElem hi, List.getD_eq_getElem?_getD, List.getElem?_eq_getElem hi]; rfl
theorem run_step {d e : Dk} {l : List Dd} {i n : Nat} (hi : i < l.length) (h : runD d (l.take i) = (e, n)) (he : dkB e = true) {f : Dk} {ok : Bool} (hr : doR e (l.getD i nilDd) = (f, ok)) : runD d (l.take (i + 1)) = (f, cond ok (n + 1) n) ∧ dkB f = true ∧ (ok = false → f = e) := by
  rw [dds_next hi]
  cases hq : doD e (l.getD i nilDd) with
  | none =>
    rw [doR_none he hq] at hr
    cases hr
    refine ⟨?_, he, fun _ => rfl⟩
    rw [run_snoc_no (by rw [h]; exact hq), h]; rfl
  | some g =>
    rw [doR_some he hq] at hr
    cases hr
    refine ⟨?_, do_ok he hq, fun h => by cases h⟩
    rw [run_snoc_yes (by rw [h]; exact hq), h]; rfl

theorem OwnL.put3 {W : World} {base b : Nat} {a : Option Addr} {xs : List Ld} (o : OwnL W base a xs) (hB : DkB W b) (p q t : Value) : OwnL (((W.setCell ⟨b, 0, none⟩ p).setCell ⟨b, 1, none⟩ q).setCell ⟨b, 2, none⟩ t) base a xs := o.beside hB (put3_past W b p q t)
theorem dk_facts {W : World} {b : Nat} {u v x : Value} (h : CellsAt W b #[u, v, x] 32) : (W.cell? ⟨b, 0, none⟩ = some u ∧ W.cell? ⟨b, 1, none⟩ = some v ∧ W.cell? ⟨b, 2, none⟩ = some x) ∧ W.frozen? ⟨b, 0, none⟩ = false ∧ W.frozen? ⟨b, 1, none⟩ = false ∧ W.frozen? ⟨b, 2, none⟩ = false := ⟨h.three, h.frozen 0, h.frozen 1, h.frozen 2⟩

theorem zero_1 {W W' : World} (hg : (W.alloc (.cells #[.int .i64 0, .string ⟨#[]⟩, .slice none 0 0] 32)).grownBy W' none) : CellsAt W' W.heap.size #[.int .i64 0, .string ⟨#[]⟩, .slice none 0 0] 32 := (CellsAt.new W _ _).grown hg
theorem lastS7 {a b c d e f g : Prop} (h : a ∧ b ∧ c ∧ d ∧ e ∧ f ∧ g) : g := h.2.2.2.2.2.2
theorem sizeS7 {a b c d e f : Prop} {W W' : World} {row : Option Nat} (h : a ∧ b ∧ c ∧ d ∧ e ∧ f ∧ W.grownBy W' row) : W.heap.size ≤ W'.heap.size := h.2.2.2.2.2.2.size
/-- A variable with the desk that was answered. -/
def GotZ (W : World) (m : Int) (s : List UInt8) (xs : List Ld) (ok : Bool) (p v : Value) (wc : World) : Prop :=
  ∃ (b : Nat) (a : Option Addr) (cap : Nat), p = .pointer (some ⟨b, 0, none⟩) ∧ v = .bool ok ∧ W.heap.size ≤ b ∧ CellsAt wc b #[.int .i64 m, .string (bs s), .slice a xs.length cap] 32 ∧ OwnL wc W.heap.size a xs ∧ (a = none → cap = 0) ∧ W.grownBy wc none
theorem gotZ_new {W wc : World} {m : Int} {s : List UInt8} {xs : List Ld} {ok : Bool} {a : Option Addr} {cap base : Nat} (ho : OwnL wc base a xs) (hz : a = none → cap = 0) (hb : W.heap.size ≤ base) (hg : W.grownBy wc none) :
    GotZ W m s xs ok (.pointer (some ⟨wc.heap.size, 0, none⟩)) (.bool ok) (wc.alloc (.cells #[.int .i64 m, .string (bs s), .slice a xs.length cap] 32)) :=
  ⟨_, a, cap, rfl, rfl, hg.size, CellsAt.new wc _ _, (ho.kept (World.grownBy_alloc _ _ none)).mono hb, hz, grownBy_trans hg (World.grownBy_alloc _ _ none)⟩
theorem gotZ_old {W wc : World} {m : Int} {s : List UInt8} {xs : List Ld} {ok : Bool} {a : Option Addr} {cap base b : Nat} {x y z : Value} (ho : OwnL wc base a xs) (hz : a = none → cap = 0) (hb : W.heap.size ≤ base) (hg : W.grownBy wc none) (hB : CellsAt wc b #[x, y, z] 32) (hw : W.heap.size ≤ b) :
    GotZ W m s xs ok (.pointer (some ⟨b, 0, none⟩)) (.bool ok) (((wc.setCell ⟨b, 0, none⟩ (.int .i64 m)).setCell ⟨b, 1, none⟩ (.string (bs s))).setCell ⟨b, 2, none⟩ (.slice a xs.length cap)) :=
  ⟨b, a, cap, rfl, rfl, hw, hB.put3 _ _ _, (ho.beside ⟨_, hB⟩ (put3_past wc b _ _ _)).mono hb, hz, put3_grown b hg hw _ _ _⟩

/-- A variable with a desk that was answered, and a value beside it. -/
def GotV (W : World) (m : Int) (s : List UInt8) (xs : List Ld) (v0 p v : Value) (wc : World) : Prop :=
  ∃ (b : Nat) (a : Option Addr) (cap : Nat), p = .pointer (some ⟨b, 0, none⟩) ∧ v = v0 ∧ W.heap.size ≤ b ∧ CellsAt wc b #[.int .i64 m, .string (bs s), .slice a xs.length cap] 32 ∧ OwnL wc W.heap.size a xs ∧ (a = none → cap = 0) ∧ W.grownBy wc none
theorem gotV_new {W wc : World} {m : Int} {s : List UInt8} {xs : List Ld} {v0 : Value} {a : Option Addr} {cap base : Nat} (ho : OwnL wc base a xs) (hz : a = none → cap = 0) (hb : W.heap.size ≤ base) (hg : W.grownBy wc none) :
    GotV W m s xs v0 (.pointer (some ⟨wc.heap.size, 0, none⟩)) v0 (wc.alloc (.cells #[.int .i64 m, .string (bs s), .slice a xs.length cap] 32)) :=
  ⟨_, a, cap, rfl, rfl, hg.size, CellsAt.new wc _ _, (ho.kept (World.grownBy_alloc _ _ none)).mono hb, hz, grownBy_trans hg (World.grownBy_alloc _ _ none)⟩
theorem gotV_old {W wc : World} {m : Int} {s : List UInt8} {xs : List Ld} {v0 : Value} {a : Option Addr} {cap base b : Nat} {x y z : Value} (ho : OwnL wc base a xs) (hz : a = none → cap = 0) (hb : W.heap.size ≤ base) (hg : W.grownBy wc none) (hB : CellsAt wc b #[x, y, z] 32) (hw : W.heap.size ≤ b) :
    GotV W m s xs v0 (.pointer (some ⟨b, 0, none⟩)) v0 (((wc.setCell ⟨b, 0, none⟩ (.int .i64 m)).setCell ⟨b, 1, none⟩ (.string (bs s))).setCell ⟨b, 2, none⟩ (.slice a xs.length cap)) :=
  ⟨b, a, cap, rfl, rfl, hw, hB.put3 _ _ _, (ho.beside ⟨_, hB⟩ (put3_past wc b _ _ _)).mono hb, hz, put3_grown b hg hw _ _ _⟩
theorem lastS4 {a b c d : Prop} (h : a ∧ b ∧ c ∧ d) : d := h.2.2.2
theorem sizeS4 {a b c : Prop} {W W' : World} {row : Option Nat} (h : a ∧ b ∧ c ∧ W.grownBy W' row) : W.heap.size ≤ W'.heap.size := h.2.2.2.size

/-- The desk between the deeds. -/
def RunI (w0 : World) (b : Nat) (d : Dk) (l : List Dd) (iv nv : Value) (wr : World) : Prop :=
  ∃ (i n : Nat) (e : Dk) (a : Option Addr) (cap : Nat), i ≤ l.length ∧ iv = .int .i64 i ∧ nv = .int .i64 n ∧ n ≤ i ∧ runD d (l.take i) = (e, n) ∧ dkB e = true ∧ CellsAt wr b #[.int .i64 e.1.1, .string (bs e.1.2), .slice a e.2.length cap] 32 ∧ OwnL wr w0.heap.size a e.2 ∧ (a = none → cap = 0) ∧ CellsAt wr (w0.heap.size + 1) #[.int .i64 0, .string ⟨#[]⟩, .slice none 0 0] 32 ∧ w0.grownBy wr none ∧ w0.heap.size + 1 < b
theorem run_post0 {w w' : World} (hg : w.grownBy w' none) : RunPost (nilDk, 0) w (.returned (.tuple #[.agg #[.int .i64 0, .string ⟨#[]⟩, .slice none 0 0], .int .i64 0])) (((w'.setCell ⟨w.heap.size + 1, 0, none⟩ (.int .i64 0)).setCell ⟨w.heap.size + 1, 1, none⟩ (.string ⟨#[]⟩)).setCell ⟨w.heap.size + 1, 2, none⟩ (.slice none 0 0)) :=
  ⟨none, 0, rfl, OwnL.nil _ _ _, fun _ => rfl, put3_grown _ hg (by omega) _ _ _⟩

set_option maxRecDepth 8000 in
set_option maxHeartbeats 2000000 in
theorem irun_bad (m : Int) (s : List UInt8) (xs : List Ld) (l : List Dd) (a b : Option Addr) (cap capb : Nat) (w : World) (h : LdsAt w a xs) (hd : dkB ((m, s), xs) = false ∨ (dkB ((m, s), xs) = true ∧ 40 < l.length)) :
    Calls Tryz.prog 16 #[.agg #[.int .i64 m, .string (bs s), .slice a xs.length cap], .slice b l.length capb] w (RunPost (nilDk, 0) w) := by
  have g2 : w.grownBy ((w.alloc (.cells #[.int .i64 m, .string (bs s), .slice a xs.length cap] 32)).alloc (.cells #[.int .i64 0, .string ⟨#[]⟩, .slice none 0 0] 32)) none := grownBy_trans (World.grownBy_alloc w _ none) (World.grownBy_alloc _ _ none)
  have hZ := Lib.hid (CellsAt.second w (.cells #[.int .i64 m, .string (bs s), .slice a xs.length cap] 32) #[.int .i64 0, .string ⟨#[]⟩, .slice none 0 0] 32)
  have ck := idesk_any ((m, s), xs) a cap _ (h.grown g2)
  have G2 := Lib.hid g2
  clear h g2
  unfold dkV at ck
  rcases hd with hd | ⟨hd, hl⟩
  · rw [hd] at ck
    go_enter Tryz.func16, Tryz.ntmps16
    go_wp2_with (first | (go_at_call 23; refine ck.mono ?_; rintro e w1 ⟨rfl, hg⟩; obtain ⟨⟨z0, z1, z2⟩, f0, f1, f2⟩ := dk_facts (hZ.out.grown hg)))
    exact bodyPost_ret (v := .tuple #[.agg #[.int .i64 0, .string ⟨#[]⟩, .slice none 0 0], .int .i64 0]) (resDkB (b := .int .i64 0) rfl _ rfl rfl ((hZ.out.grown hg).put3 _ _ _)) rfl (run_post0 (grownBy_trans G2.out hg))
  · rw [hd] at ck
    have hll : (40 : Int) < (l.length : Int) := by omega
    go_enter Tryz.func16, Tryz.ntmps16
    go_wp2_with (first | (go_at_call 23; refine ck.mono ?_; rintro e w1 ⟨rfl, hg⟩; obtain ⟨⟨z0, z1, z2⟩, f0, f1, f2⟩ := dk_facts (hZ.out.grown hg)))
    exact bodyPost_ret (v := .tuple #[.agg #[.int .i64 0, .string ⟨#[]⟩, .slice none 0 0], .int .i64 0]) (resDkB (b := .int .i64 0) rfl _ rfl rfl ((hZ.out.grown hg).put3 _ _ _)) rfl (run_post0 (grownBy_trans G2.out hg))

set_option maxRecDepth 8000 in
set_option maxHeartbeats 8000000 in
theorem irun_ok (m : Int) (s : List UInt8) (xs : List Ld) (l : List Dd) (a b : Option Addr) (cap capb : Nat) (w : World) (h : LdsAt w a xs) (h0 : a = none → cap = 0) (hl : DdsAt w b l) (ht : ∀ x ∈ l, x.2.2.length ≤ 4000000) (hd : dkB ((m, s), xs) = true) (hn : l.length ≤ 40) :
    Calls Tryz.prog 16 #[.agg #[.int .i64 m, .string (bs s), .slice a xs.length cap], .slice b l.length capb] w (RunPost (runD ((m, s), xs) l) w) := by
  have g2 : w.grownBy ((w.alloc (.cells #[.int .i64 m, .string (bs s), .slice a xs.length cap] 32)).alloc (.cells #[.int .i64 0, .string ⟨#[]⟩, .slice none 0 0] 32)) none := grownBy_trans (World.grownBy_alloc w _ none) (World.grownBy_alloc _ _ none)
  have hZ := Lib.hid (CellsAt.second w (.cells #[.int .i64 m, .string (bs s), .slice a xs.length cap] 32) #[.int .i64 0, .string ⟨#[]⟩, .slice none 0 0] 32)
  have hD := Lib.hid (CellsAt.first w (.cells #[.int .i64 0, .string ⟨#[]⟩, .slice none 0 0] 32) #[.int .i64 m, .string (bs s), .slice a xs.length cap] 32)
  have ck := idesk_any ((m, s), xs) a cap _ (h.grown g2)
  rw [hd] at ck
  unfold dkV at ck
  have hx8 : xs.length ≤ 9 := by have := (dkB_of hd).2.2; change xs.length ≤ 8 at this; omega
  have cc : ∀ W, LdsAt W a xs → Calls Tryz.prog 50 #[.agg #[.int .i64 m, .string (bs s), .slice a xs.length cap]] W fun e w' => ∃ a' cap', e = .returned (.agg #[.int .i64 m, .string (bs s), .slice a' xs.length cap']) ∧ Own2 w' W.heap.size a' cap' xs ∧ W.grownBy w' none := fun W hW => copied_any ((m, s), xs) a cap W hW h0 hx8
  have HX := Lib.hid (h.grown g2)
  have HL := Lib.hid hl
  have HT := Lib.hid ht
  have HD := Lib.hid hd
  have G2 := Lib.hid g2
  have hll : ¬ ((40 : Int) < (l.length : Int)) := by omega
  clear h g2 hl ht hd h0
  go_enter Tryz.func16, Tryz.ntmps16
  go_wp2_with fail
  generalize (w.alloc (.cells #[.int .i64 m, .string (bs s), .slice a xs.length cap] 32)).alloc (.cells #[.int .i64 0, .string ⟨#[]⟩, .slice none 0 0] 32) = W at *
  refine ck.mono ?_
  rintro e w1 ⟨rfl, hg1⟩
  obtain ⟨d0, d1, d2⟩ := (hD.out.grown hg1).three
  clear ck
  go_wp2_with fail
  refine (cc _ (HX.out.grown hg1)).mono ?_
  rintro e w2 ⟨a2, c2, rfl, ho, hg2⟩
  have g02 := grownBy_trans G2.out (grownBy_trans hg1 hg2)
  have hA := CellsAt.new w2 #[.int .i64 m, .string (bs s), .slice a2 xs.length c2] 32
  have gA := World.grownBy_alloc w2 (.cells #[.int .i64 m, .string (bs s), .slice a2 xs.length c2] 32) none
  have s1 : w.heap.size ≤ w1.heap.size := (grownBy_trans G2.out hg1).size
  have hZ2 := (hZ.out.grown (grownBy_trans hg1 hg2)).grown gA
  have hlt := (hZ.out.grown (grownBy_trans hg1 hg2)).lt
  have hInit : Hid (RunI w w2.heap.size ((m, s), xs) l (.int .i64 ((0 : Nat) : Int)) (.int .i64 ((0 : Nat) : Int)) (w2.alloc (.cells #[.int .i64 m, .string (bs s), .slice a2 xs.length c2] 32))) := ⟨0, 0, ((m, s), xs), a2, c2, by omega, rfl, rfl, by omega, by rw [List.take_zero]; rfl, HD.out, hA, (ho.kept gA).l.mono s1, (ho.kept gA).bare, hZ2, grownBy_trans g02 gA, hlt⟩
  clear ho hg1 hg2 g02 gA s1 hZ2 hA cc d0 d1 d2
  go_wp2_with fail
  generalize w2.alloc (.cells #[.int .i64 m, .string (bs s), .slice a2 xs.length c2] 32) = W2 at *
  generalize w2.heap.size = bA at *
  go_loopw [25, 7] (fun iv nv wr => RunI w bA ((m, s), xs) l iv nv wr) (fun iv _ _ => l.length - (intOf iv).toNat)
  case atStart => exact hInit.out
  case round =>
    obtain ⟨i, n, ⟨⟨p, u⟩, ys⟩, ae, ce, hi, rfl, rfl, hni, hrun, hde, hB, ho, hz, hZr, hgr, hb⟩ := hrel
    have HB := Lib.hid hB
    have HO := Lib.hid ho
    have HZr := Lib.hid hZr
    have HG := Lib.hid hgr
    have HDE := Lib.hid hde
    have HR := Lib.hid hrun
    clear hB ho hZr hgr hde hrun
    obtain ⟨⟨y0, y1, y2⟩, v0, v1, v2⟩ := dk_facts HB.out
    obtain ⟨⟨z0, z1, z2⟩, f0, f1, f2⟩ := dk_facts HZr.out
    by_cases hlt : i < l.length
    · have hst : ∀ f ok, doR ((p, u), ys) (l.getD i nilDd) = (f, ok) → runD ((m, s), xs) (l.take (i + 1)) = (f, cond ok (n + 1) n) ∧ dkB f = true ∧ (ok = false → f = ((p, u), ys)) := fun f ok hr => run_step hlt HR.out HDE.out hr
      have htD := HT.out _ (getDd_mem hlt)
      rcases (HL.out.grown HG.out).2 with q | ⟨bx, ox, rfl, _, hcx⟩
      · rw [q] at hlt; simp at hlt
      obtain ⟨k0, k1, k2⟩ := hcx i hlt
      clear hcx
      obtain ⟨D, hD⟩ : ∃ D, D = l.getD i nilDd := ⟨_, rfl⟩
      rw [← hD] at hst htD k0 k1 k2
      obtain ⟨⟨⟨⟨p2, u2⟩, ys2⟩, ok⟩, hR⟩ : ∃ R, R = doR ((p, u), ys) D := ⟨_, rfl⟩
      have HS := Lib.hid (hst _ _ hR.symm)
      have cd : ∀ W, LdsAt W ae ys → Calls Tryz.prog 52 #[.agg #[.int .i64 p, .string (bs u), .slice ae ys.length ce], .agg #[.int .i64 D.1, .int .i64 D.2.1, .string (bs D.2.2)]] W fun e w' => ∃ a' cap', e = .returned (.tuple #[.agg #[.int .i64 p2, .string (bs u2), .slice a' ys2.length cap'], .bool ok]) ∧ OwnL w' W.heap.size a' ys2 ∧ (a' = none → cap' = 0) ∧ W.grownBy w' none := fun W hW => by
        have := ido_any ((p, u), ys) D ae ce W hW hz htD
        rw [← hR] at this
        exact this
      clear hst hR hD htD HDE
      have gE := World.grownBy_alloc wr (.cells #[.int .i64 D.1, .int .i64 D.2.1, .string (bs D.2.2)] 40) none
      obtain ⟨e0, e1, e2⟩ := (CellsAt.new wr #[.int .i64 D.1, .int .i64 D.2.1, .string (bs D.2.2)] 40).three
      obtain ⟨b0, b1, b2⟩ := (HB.out.grown gE).three
      clear y0 y1 y2 v0 v1 v2 z0 z1 z2 f0 f1 f2
      go_wp2_with fail
      refine (cd _ (HO.out.at.grown gE)).mono ?_
      rintro e w3 ⟨a3, c3, rfl, o3, z3, hg3⟩
      have gX := World.grownBy_alloc w3 (.cells #[.int .i64 p2, .string (bs u2), .slice a3 ys2.length c3] 32) none
      have gg := Lib.hid (grownBy_trans gE (grownBy_trans hg3 gX))
      obtain ⟨x0, x1, x2⟩ := (CellsAt.new w3 #[.int .i64 p2, .string (bs u2), .slice a3 ys2.length c3] 32).three
      have HB4 := Lib.hid (HB.out.grown gg.out)
      have HZ4 := Lib.hid (HZr.out.grown gg.out)
      have so : w.heap.size ≤ wr.heap.size := HG.out.size
      have O4 := Lib.hid ((o3.kept gX).mono (base' := w.heap.size) (Nat.le_trans so gE.size))
      have G4 := Lib.hid (grownBy_trans HG.out gg.out)
      obtain ⟨⟨y0, y1, y2⟩, v0, v1, v2⟩ := dk_facts HB4.out
      clear o3 hg3 gX cd e0 e1 e2 b0 b1 b2 gE k0 k1 k2
      cases ok
      · go_wp2_with fail
        go_roundw
        case rel => exact ⟨i + 1, n, ((p2, u2), ys2), a3, c3, by omega, by go_num, rfl, by omega, HS.out.1, HS.out.2.1, HB4.out.put3 _ _ _, O4.out.put3 ⟨_, HB4.out⟩ _ _ _, z3, HZ4.out.kept (put3_past _ bA _ _ _) (by simp; omega), put3_grown _ G4.out (by omega) _ _ _, hb⟩
        case measure => simp [intOf]; omega
      · go_wp2_with fail
        go_roundw
        case rel => exact ⟨i + 1, n + 1, ((p2, u2), ys2), a3, c3, by omega, by go_num, by go_num, by omega, HS.out.1, HS.out.2.1, HB4.out.put3 _ _ _, O4.out.put3 ⟨_, HB4.out⟩ _ _ _, z3, HZ4.out.kept (put3_past _ bA _ _ _) (by simp; omega), put3_grown _ G4.out (by omega) _ _ _, hb⟩
        case measure => simp [intOf]; omega
    · obtain rfl : i = l.length := by omega
      have e := HR.out
      rw [List.take_length] at e
      have F := Lib.hid (HZr.out.put3 (.int .i64 p) (.string (bs u)) (.slice ae ys.length ce))
      have P : Hid (RunPost (runD ((m, s), xs) l) w (.returned (.tuple #[.agg #[.int .i64 p, .string (bs u), .slice ae ys.length ce], .int .i64 (n : Int)])) (((wr.setCell ⟨w.heap.size + 1, 0, none⟩ (.int .i64 p)).setCell ⟨w.heap.size + 1, 1, none⟩ (.string (bs u))).setCell ⟨w.heap.size + 1, 2, none⟩ (.slice ae ys.length ce))) := by
        rw [e]
        exact ⟨ae, ce, rfl, HO.out.put3 ⟨_, HZr.out⟩ _ _ _, hz, put3_grown _ HG.out (by omega) _ _ _⟩
      clear e
      go_wp2_with fail
      exact bodyPost_ret (v := .tuple #[.agg #[.int .i64 p, .string (bs u), .slice ae ys.length ce], .int .i64 (n : Int)]) (resDkB (b := .int .i64 (n : Int)) rfl _ rfl rfl F.out) rfl P.out


theorem irun_any (d : Dk) (l : List Dd) (a b : Option Addr) (cap capb : Nat) (w : World) (h : LdsAt w a d.2) (h0 : a = none → cap = 0) (hl : DdsAt w b l) (ht : ∀ x ∈ l, x.2.2.length ≤ 4000000) :
    Calls Tryz.prog 16 #[dkV d a cap, .slice b l.length capb] w (RunPost (runR d l) w) := by
  obtain ⟨⟨m, s⟩, xs⟩ := d
  unfold runR
  by_cases hd : dkB ((m, s), xs) = true ∧ l.length ≤ 40
  · rw [if_pos hd]; exact irun_ok m s xs l a b cap capb w h h0 hl ht hd.1 hd.2
  · rw [if_neg hd]
    refine irun_bad m s xs l a b cap capb w h ?_
    cases e : dkB ((m, s), xs)
    · exact .inl rfl
    · exact .inr ⟨rfl, Nat.lt_of_not_le fun q => hd ⟨e, q⟩⟩

end Go.Proofs.YtlnffpofbfigaaaGreatDoor

/-
  A line to a desk that is a deed: the landed code's DeskLine.
-/
namespace Go.Proofs.YtlnffpofbfigaaaGreatDoor
open Go.RowKit

def okT (b : Bool) : ByteArray := cond b ⟨#[111, 107]⟩ ⟨#[110, 111, 116]⟩
def LnPost (r : Dk × Bool) (w : World) (e : Ending) (w' : World) : Prop := ∃ a cap, e = .returned (.tuple #[dkV r.1 a cap, .string (okT r.2)]) ∧ OwnL w' w.heap.size a r.1.2 ∧ (a = none → cap = 0) ∧ w.grownBy w' none

set_option maxRecDepth 8000 in
set_option maxHeartbeats 2000000 in
theorem idl_deed (m : Int) (s : List UInt8) (xs : List Ld) (D : Dd) (t : List UInt8) (a : Option Addr) (cap : Nat) (w : World) (hq : rdD t = some D) (htl : t.length ≤ L48) (hDl : D.2.2.length ≤ 4000000) (h : LdsAt w a xs) (h0 : a = none → cap = 0) (hd : dkB ((m, s), xs) = true) (hT : WdAt w ∧ ErAt w) :
    Calls Tryz.prog 14 #[.agg #[.int .i64 m, .string (bs s), .slice a xs.length cap], .string (bs t)] w (LnPost (doR ((m, s), xs) D) w) := by
  have g2 : w.grownBy ((w.alloc (.cells #[.int .i64 m, .string (bs s), .slice a xs.length cap] 32)).alloc (.cells #[.int .i64 0, .string ⟨#[]⟩, .slice none 0 0] 32)) none := grownBy_trans (World.grownBy_alloc w _ none) (World.grownBy_alloc _ _ none)
  have hZ := Lib.hid (CellsAt.second w (.cells #[.int .i64 m, .string (bs s), .slice a xs.length cap] 32) #[.int .i64 0, .string ⟨#[]⟩, .slice none 0 0] 32)
  have hD := Lib.hid (CellsAt.first w (.cells #[.int .i64 0, .string ⟨#[]⟩, .slice none 0 0] 32) #[.int .i64 m, .string (bs s), .slice a xs.length cap] 32)
  have ck := idesk_any ((m, s), xs) a cap _ (h.grown g2)
  rw [hd] at ck
  unfold dkV at ck
  have cr := fun w hT hE => ird_v t _ (rdV_some hq) w hT hE htl
  unfold ddV at cr
  obtain ⟨⟨⟨⟨p2, u2⟩, ys2⟩, ok⟩, hR⟩ : ∃ R, R = doR ((m, s), xs) D := ⟨_, rfl⟩
  have cd : ∀ W, LdsAt W a xs → Calls Tryz.prog 52 #[.agg #[.int .i64 m, .string (bs s), .slice a xs.length cap], .agg #[.int .i64 D.1, .int .i64 D.2.1, .string (bs D.2.2)]] W fun e w' => ∃ a' cap', e = .returned (.tuple #[.agg #[.int .i64 p2, .string (bs u2), .slice a' ys2.length cap'], .bool ok]) ∧ OwnL w' W.heap.size a' ys2 ∧ (a' = none → cap' = 0) ∧ W.grownBy w' none := fun W hW => by
    have := ido_any ((m, s), xs) D a cap W hW h0 hDl
    rw [← hR] at this
    exact this
  rw [← hR]
  have HX := Lib.hid (h.grown g2)
  have HT := Lib.hid hT
  have G2 := Lib.hid g2
  generalize bs t = U at *
  clear h g2 hd hT hq htl hDl hR
  go_enter Tryz.func14, Tryz.ntmps14
  go_wp2_with fail
  generalize (w.alloc (.cells #[.int .i64 m, .string (bs s), .slice a xs.length cap] 32)).alloc (.cells #[.int .i64 0, .string ⟨#[]⟩, .slice none 0 0] 32) = W at *
  refine ck.mono ?_
  rintro e w1 ⟨rfl, hg1⟩
  have G1 := Lib.hid (grownBy_trans G2.out hg1)
  have g1W := Lib.hid hg1
  clear ck hg1
  go_wp2_with fail
  refine (cr _ (HT.out.1.grown G1.out) (HT.out.2.grown G1.out)).mono ?_
  rintro e w2 ⟨rfl, hg2⟩
  have gA := World.grownBy_alloc w2 (.cells #[.int .i64 D.1, .int .i64 D.2.1, .string (bs D.2.2)] 40) none
  have gW2 := Lib.hid (grownBy_trans g1W.out (grownBy_trans hg2 gA))
  obtain ⟨d0, d1, d2⟩ := (hD.out.grown gW2.out).three
  obtain ⟨e0, e1, e2⟩ := (CellsAt.new w2 #[.int .i64 D.1, .int .i64 D.2.1, .string (bs D.2.2)] 40).three
  clear cr hg2 gA
  go_wp2_with fail
  refine (cd _ (HX.out.grown gW2.out)).mono ?_
  rintro e w3 ⟨a3, c3, rfl, o3, z3, hg3⟩
  have gX := World.grownBy_alloc w3 (.cells #[.int .i64 p2, .string (bs u2), .slice a3 ys2.length c3] 32) none
  have gW3 := Lib.hid (grownBy_trans gW2.out (grownBy_trans hg3 gX))
  have G3 := Lib.hid (grownBy_trans G2.out gW3.out)
  have hZ3 := Lib.hid (hZ.out.grown gW3.out)
  obtain ⟨⟨y0, y1, y2⟩, v0, v1, v2⟩ := dk_facts hZ3.out
  obtain ⟨x0, x1, x2⟩ := (CellsAt.new w3 #[.int .i64 p2, .string (bs u2), .slice a3 ys2.length c3] 32).three
  have O3 := Lib.hid ((o3.kept gX).mono (base' := w.heap.size) (grownBy_trans G2.out gW2.out).size)
  have F := Lib.hid (hZ3.out.put3 (.int .i64 p2) (.string (bs u2)) (.slice a3 ys2.length c3))
  have P : Hid (LnPost (((p2, u2), ys2), ok) w (.returned (.tuple #[.agg #[.int .i64 p2, .string (bs u2), .slice a3 ys2.length c3], .string (okT ok)])) ((((w3.alloc (.cells #[.int .i64 p2, .string (bs u2), .slice a3 ys2.length c3] 32)).setCell ⟨w.heap.size + 1, 0, none⟩ (.int .i64 p2)).setCell ⟨w.heap.size + 1, 1, none⟩ (.string (bs u2))).setCell ⟨w.heap.size + 1, 2, none⟩ (.slice a3 ys2.length c3))) :=
    ⟨a3, c3, rfl, O3.out.put3 ⟨_, hZ3.out⟩ _ _ _, z3, put3_grown _ G3.out (by omega) _ _ _⟩
  clear hg3 gX cd e0 e1 e2 o3
  cases ok
  · go_wp2_with fail
    exact bodyPost_ret (v := .tuple #[.agg #[.int .i64 p2, .string (bs u2), .slice a3 ys2.length c3], .string (okT false)]) (resDkB (b := .string (okT false)) rfl _ rfl rfl F.out) rfl P.out
  · go_wp2_with fail
    exact bodyPost_ret (v := .tuple #[.agg #[.int .i64 p2, .string (bs u2), .slice a3 ys2.length c3], .string (okT true)]) (resDkB (b := .string (okT true)) rfl _ rfl rfl F.out) rfl P.out

end Go.Proofs.YtlnffpofbfigaaaGreatDoor

/-
  A line to a desk, whatever it is: the landed code's DeskLine.
-/
namespace Go.Proofs.YtlnffpofbfigaaaGreatDoor
open Go.RowKit

def lineR (d : Dk) (l : List UInt8) : Dk × ByteArray :=
  if dkB d = true then
    match rdD l with
    | some D => ((doR d D).1, okT (doR d D).2)
    | none => (d, ansD d.1.1 d.1.2 l)
  else (nilDk, ⟨#[]⟩)
def LinePost (r : Dk × ByteArray) (w : World) (e : Ending) (w' : World) : Prop := ∃ a cap, e = .returned (.tuple #[dkV r.1 a cap, .string r.2]) ∧ OwnL w' w.heap.size a r.1.2 ∧ (a = none → cap = 0) ∧ w.grownBy w' none
theorem now_ok {m : Int} {s : List UInt8} {xs : List Ld} (h : dkB ((m, s), xs) = true) : ∃ N : Nat, m = N ∧ NowOk N s := by
  obtain ⟨h1, h2⟩ := ldB_of (dkB_of h).2.1
  have h1' := inB_of h1
  change 1 ≤ m ∧ m ≤ 6 at h1'
  obtain ⟨N, rfl⟩ := Int.eq_ofNat_of_zero_le (show 0 ≤ m by omega)
  refine ⟨N, rfl, by omega, ?_⟩
  cases hf : fOf s with
  | some t => exact ⟨t, rfl⟩
  | none => rw [isF_f hf] at h2; cases h2

set_option maxRecDepth 8000 in
set_option maxHeartbeats 2000000 in
theorem idl_none (m : Int) (s : List UInt8) (xs : List Ld) (l : List UInt8) (a : Option Addr) (cap : Nat) (w : World) (hq : rdD l = none) (hl : l.length ≤ 2097152) (h : LdsAt w a xs) (h0 : a = none → cap = 0) (hd : dkB ((m, s), xs) = true) (hT : WdAt w ∧ ErAt w) :
    Calls Tryz.prog 14 #[.agg #[.int .i64 m, .string (bs s), .slice a xs.length cap], .string (bs l)] w (LinePost (((m, s), xs), ansD m s l) w) := by
  obtain ⟨N, rfl, hN⟩ := now_ok hd
  have g2 : w.grownBy ((w.alloc (.cells #[.int .i64 N, .string (bs s), .slice a xs.length cap] 32)).alloc (.cells #[.int .i64 0, .string ⟨#[]⟩, .slice none 0 0] 32)) none := grownBy_trans (World.grownBy_alloc w _ none) (World.grownBy_alloc _ _ none)
  have hZ := Lib.hid (CellsAt.second w (.cells #[.int .i64 N, .string (bs s), .slice a xs.length cap] 32) #[.int .i64 0, .string ⟨#[]⟩, .slice none 0 0] 32)
  have hD := Lib.hid (CellsAt.first w (.cells #[.int .i64 0, .string ⟨#[]⟩, .slice none 0 0] 32) #[.int .i64 N, .string (bs s), .slice a xs.length cap] 32)
  have ck := idesk_any ((N, s), xs) a cap _ (h.grown g2)
  rw [hd] at ck
  unfold dkV at ck
  have cr := fun w hT hE => ird_v l _ (rdV_none hq) w hT hE (by unfold L48; omega)
  unfold ddV nilDd at cr
  rw [show bs ([] : List UInt8) = ⟨#[]⟩ from rfl] at cr
  have hx8 : xs.length ≤ 9 := by have := (dkB_of hd).2.2; change xs.length ≤ 8 at this; omega
  have cc : ∀ W, LdsAt W a xs → Calls Tryz.prog 50 #[.agg #[.int .i64 N, .string (bs s), .slice a xs.length cap]] W fun e w' => ∃ a' cap', e = .returned (.agg #[.int .i64 N, .string (bs s), .slice a' xs.length cap']) ∧ Own2 w' W.heap.size a' cap' xs ∧ W.grownBy w' none := fun W hW => copied_any ((N, s), xs) a cap W hW h0 hx8
  have ca := fun W hE => ianswer_any N s l (.slice a xs.length cap) W hN hl hE
  unfold AnPost at ca
  have HX := Lib.hid (h.grown g2)
  have HT := Lib.hid hT
  have G2 := Lib.hid g2
  obtain ⟨Y, hY⟩ : ∃ Y, Y = ansD N s l := ⟨_, rfl⟩
  rw [← hY] at ca ⊢
  clear hY
  generalize bs l = U at *
  clear h g2 hd hT hq hl hx8
  go_enter Tryz.func14, Tryz.ntmps14
  go_wp2_with fail
  generalize (w.alloc (.cells #[.int .i64 N, .string (bs s), .slice a xs.length cap] 32)).alloc (.cells #[.int .i64 0, .string ⟨#[]⟩, .slice none 0 0] 32) = W at *
  refine ck.mono ?_
  rintro e w1 ⟨rfl, hg1⟩
  have G1 := Lib.hid (grownBy_trans G2.out hg1)
  have g1W := Lib.hid hg1
  clear ck hg1
  go_wp2_with fail
  refine (cr _ (HT.out.1.grown G1.out) (HT.out.2.grown G1.out)).mono ?_
  rintro e w2 ⟨rfl, hg2⟩
  have gA := World.grownBy_alloc w2 (.cells #[.int .i64 0, .int .i64 0, .string ⟨#[]⟩] 40) none
  have gW2 := Lib.hid (grownBy_trans g1W.out (grownBy_trans hg2 gA))
  obtain ⟨d0, d1, d2⟩ := (hD.out.grown gW2.out).three
  clear cr hg2 gA
  go_wp2_with fail
  generalize w2.alloc (.cells #[.int .i64 0, .int .i64 0, .string ⟨#[]⟩] 40) = W3 at *
  have HD3 := Lib.hid (hD.out.grown gW2.out)
  have HZ3 := Lib.hid (hZ.out.grown gW2.out)
  have HX3 := Lib.hid (HX.out.grown gW2.out)
  have G3 := Lib.hid (grownBy_trans G2.out gW2.out)
  have HE3 := Lib.hid (HT.out.2.grown G3.out)
  go_region_with (first | (go_at_call 50; (with_reducible refine (cc _ (HX3.out.grown (grownBy_drew (grownBy_refl _ _)))).mono ?_); rintro e wc ⟨a', c', rfl, ho, gc⟩; have GC := Lib.hid (drew_grown gc); have HOc := Lib.hid ho; obtain ⟨q0, q1, q2⟩ := (HD3.out.grown GC.out).three; clear gc ho) | (go_at_call 51; (with_reducible refine (ca _ (HE3.out.grown GC.out)).mono ?_); rintro e wn ⟨rfl, gn⟩; have GN := Lib.hid (grownBy_trans GC.out gn); have HZn := Lib.hid (HZ3.out.grown GN.out); obtain ⟨⟨y0, y1, y2⟩, v0, v1, v2⟩ := dk_facts HZn.out; have HO := Lib.hid (HOc.out.kept gn); clear gn))
  all_goals go_wp2_with fail
  all_goals
    have F := HZn.out.put3 (.int .i64 N) (.string (bs s)) (.slice a' xs.length c')
    have hb : w.heap.size ≤ W3.drew.heap.size := G3.out.size
    have P : LinePost (((N, s), xs), Y) w (.returned (.tuple #[.agg #[.int .i64 N, .string (bs s), .slice a' xs.length c'], .string Y])) (((wn.setCell ⟨w.heap.size + 1, 0, none⟩ (.int .i64 N)).setCell ⟨w.heap.size + 1, 1, none⟩ (.string (bs s))).setCell ⟨w.heap.size + 1, 2, none⟩ (.slice a' xs.length c')) :=
      ⟨a', c', rfl, (HO.out.l.mono hb).put3 ⟨_, HZn.out⟩ _ _ _, HO.out.bare, put3_grown _ (grownBy_trans G3.out GN.out) (by omega) _ _ _⟩
    exact bodyPost_ret (v := .tuple #[.agg #[.int .i64 N, .string (bs s), .slice a' xs.length c'], .string Y]) (resDkB (b := .string Y) rfl _ rfl rfl F) rfl P

set_option maxRecDepth 8000 in
set_option maxHeartbeats 2000000 in
theorem idl_bad (m : Int) (s : List UInt8) (xs : List Ld) (l : List UInt8) (a : Option Addr) (cap : Nat) (w : World) (h : LdsAt w a xs) (hd : dkB ((m, s), xs) = false) :
    Calls Tryz.prog 14 #[.agg #[.int .i64 m, .string (bs s), .slice a xs.length cap], .string (bs l)] w (LinePost (nilDk, ⟨#[]⟩) w) := by
  have g2 : w.grownBy ((w.alloc (.cells #[.int .i64 m, .string (bs s), .slice a xs.length cap] 32)).alloc (.cells #[.int .i64 0, .string ⟨#[]⟩, .slice none 0 0] 32)) none := grownBy_trans (World.grownBy_alloc w _ none) (World.grownBy_alloc _ _ none)
  have hZ := Lib.hid (CellsAt.second w (.cells #[.int .i64 m, .string (bs s), .slice a xs.length cap] 32) #[.int .i64 0, .string ⟨#[]⟩, .slice none 0 0] 32)
  have ck := idesk_any ((m, s), xs) a cap _ (h.grown g2)
  rw [hd] at ck
  unfold dkV at ck
  have G2 := Lib.hid g2
  generalize bs l = U at *
  clear h g2 hd
  go_enter Tryz.func14, Tryz.ntmps14
  go_wp2_with fail
  generalize (w.alloc (.cells #[.int .i64 m, .string (bs s), .slice a xs.length cap] 32)).alloc (.cells #[.int .i64 0, .string ⟨#[]⟩, .slice none 0 0] 32) = W at *
  refine ck.mono ?_
  rintro e w1 ⟨rfl, hg1⟩
  have HZ1 := Lib.hid (hZ.out.grown hg1)
  have G1 := Lib.hid (grownBy_trans G2.out hg1)
  obtain ⟨⟨y0, y1, y2⟩, v0, v1, v2⟩ := dk_facts HZ1.out
  clear ck hg1
  go_wp2_with fail
  have F := HZ1.out.put3 (.int .i64 0) (.string ⟨#[]⟩) (.slice none 0 0)
  have P : LinePost (nilDk, ⟨#[]⟩) w (.returned (.tuple #[.agg #[.int .i64 0, .string ⟨#[]⟩, .slice none 0 0], .string ⟨#[]⟩])) (((w1.setCell ⟨w.heap.size + 1, 0, none⟩ (.int .i64 0)).setCell ⟨w.heap.size + 1, 1, none⟩ (.string ⟨#[]⟩)).setCell ⟨w.heap.size + 1, 2, none⟩ (.slice none 0 0)) :=
    ⟨none, 0, rfl, OwnL.nil _ _ _, fun _ => rfl, put3_grown _ G1.out (by omega) _ _ _⟩
  exact bodyPost_ret (v := .tuple #[.agg #[.int .i64 0, .string ⟨#[]⟩, .slice none 0 0], .string ⟨#[]⟩]) (resDkB (b := .string ⟨#[]⟩) rfl _ rfl rfl F) rfl P

theorem rd_tl {l : List UInt8} {D : Dd} (h : rdD l = some D) : D.2.2.length ≤ l.length := by
  have := rd_told h
  cases this <;> simp
/-- impl's DeskLine, at any desk and any line. -/
theorem idl_any (d : Dk) (l : List UInt8) (a : Option Addr) (cap : Nat) (w : World) (hl : l.length ≤ 2097152) (h : LdsAt w a d.2) (h0 : a = none → cap = 0) (hT : WdAt w ∧ ErAt w) :
    Calls Tryz.prog 14 #[dkV d a cap, .string (bs l)] w (LinePost (lineR d l) w) := by
  obtain ⟨⟨m, s⟩, xs⟩ := d
  unfold lineR
  cases hd : dkB ((m, s), xs)
  · simp only [Bool.false_eq_true, if_false]
    exact idl_bad m s xs l a cap w h hd
  · simp only [if_true]
    cases hq : rdD l with
    | none => exact idl_none m s xs l a cap w hq hl h h0 hd hT
    | some D => exact idl_deed m s xs D l a cap w hq (Nat.le_trans hl (by decide)) (by have := rd_tl hq; omega) h h0 hd hT

end Go.Proofs.YtlnffpofbfigaaaGreatDoor

/-
  The model's AgainstOf and SameAt. No condition.
-/
namespace Go.Proofs.YtlnffpofbfigaaaGreatDoor
open Go.RowKit

theorem least_neg (n : Int) (l : List UInt8) : (leastI n l < 0 ↔ (inB n 1 6 = false ∨ fOf l = none)) := by
  cases hi : inB n 1 6
  · rw [leastI_o hi]; simp
  · cases ho : fOf l with
    | none => rw [leastI_n ho]; simp
    | some t =>
      obtain ⟨N, rfl, hN⟩ := nat_of hi
      rw [leastI_t ho hi]
      have := vokB_of (lowU_ok hN t (cub N))
      simp
      omega

theorem all_step {p : Nat → Prop} {k : Nat} (h : ∀ j, j < k → p j) (e : p k) : ∀ j, j < k + 1 → p j := fun j hj => by
  by_cases h' : j < k
  · exact h j h'
  · have : j = k := by omega
    rw [this]; exact e

theorem sagof_no (n : Int) (s : ByteArray) (w : World) (h : inB n 1 6 = false ∨ fOf (bl s) = none) :
    Calls Tryz.prog 67 #[.int .i64 n, .string s] w fun e w' => e = .returned (.tuple #[.int .i64 (-1), .int .i64 (-1), .int .i64 (-1), .bool false]) ∧ w.grownBy w' none := by
  have cl := sleast_any n s w
  have hn := (least_neg n (bl s)).2 h
  clear h
  go_enter Tryz.func67, Tryz.ntmps67
  go_wp2_with fail
  refine cl.mono ?_
  rintro e w1 ⟨rfl, g1⟩
  clear cl
  go_wp2_with fail
  refine bodyPost_ret (results_tmp4 rfl _ _ _) rfl ?_
  exact ⟨rfl, g1⟩

set_option maxRecDepth 100000 in
set_option maxHeartbeats 4000000 in
theorem sagof_yes (N : Nat) (hN : 1 ≤ N ∧ N ≤ 6) (s : ByteArray) (w : World) {t : Tr} (ho : fOf (bl s) = some t) :
    Calls Tryz.prog 67 #[.int .i64 N, .string s] w fun e w' => e = .returned (agV N (bl s)) ∧ w.grownBy w' none := by
  have cl := sleast_any N s w
  have hi : inB (N : Int) 1 6 = true := inB_t (by omega)
  have hn : ¬ leastI N (bl s) < 0 := fun h => by
    have := (least_neg N (bl s)).1 h
    rw [hi, ho] at this
    simp at this
  obtain ⟨hs, hl⟩ := fOf_some ho
  have hsz : s.size ≤ 1048576 := by rw [bl_size, hs]; omega
  have cv : ∀ (k : Nat) (w : World), Calls Tryz.prog 111 #[.int .i64 N, .string s, .int .i64 (tA N k), .int .i64 (tB N k), .int .i64 (tC N k)] w fun e w' => e = .returned (.int .i64 (atK N t k)) ∧ w = w' := fun k w => sv_all (tri_ok hN k) t s w hs hsz
  have hag : agI N (bl s) = agN N t := agI_t ho hi
  have HA := Lib.hid hag
  clear ho hs hl hsz hi hag
  have hc := cub_le hN.2
  obtain ⟨M, m1, m2⟩ := cub_q hN
  have m0 : ¬ ((N : Int) + 1 = 0) := by omega
  go_enter Tryz.func67, Tryz.ntmps67
  go_wp2_with fail
  refine cl.mono ?_
  rintro e w1 ⟨rfl, g1⟩
  clear cl
  go_wp2_with fail
  go_loopw [9] (fun i wr => ∃ k : Nat, k ≤ cub N ∧ i = .int .i64 k ∧ (∀ j, j < k → atK N t j = N) ∧ w.grownBy wr none) (fun i _ => cub N - (intOf i).toNat)
  case atStart => exact ⟨0, by omega, rfl, fun j hj => absurd hj (by omega), g1⟩
  case round =>
    obtain ⟨k, hk, rfl, hall, hgr⟩ := hrel
    have HL := Lib.hid hall
    clear hall
    by_cases hlt : k < cub N
    · obtain ⟨D, d0, d1, p0, p1, p2, p3⟩ := place_q hlt
      have a0 := tA_le N k
      have b0 := tB_le N k
      have c0 := tC_le N k
      have z1 : IntKind.i64.wrap D = D := IntWalk.i64_in _ (by omega)
      have z2 : IntKind.i64.wrap (tA N k : Int) = tA N k := IntWalk.i64_in _ (by omega)
      have z3 : IntKind.i64.wrap (tB N k : Int) = tB N k := IntWalk.i64_in _ (by omega)
      have z4 : IntKind.i64.wrap (tC N k : Int) = tC N k := IntWalk.i64_in _ (by omega)
      have h0 := atK_le hN t k
      by_cases hv : atK N t k < N
      · have hd : decide (atK N t k < (N : Int)) = true := decide_eq_true hv
        have e := Lib.hid (agN_at hlt HL.out (by omega))
        clear h0 hv
        go_wp2
        go_region_held3 (fun w' => w.grownBy w' none) (first | exact grownBy_drew hgr | assumption) (first | (go_at_call 111; refine (cv k _).mono ?_; rintro e w2 ⟨rfl, rfl⟩))
        go_wp2
        go_quiet (fail)
        go_wp2
        refine bodyPost_ret (results_tmp4 rfl _ _ _) rfl ?_
        exact ⟨by rw [agV_s (HA.out.trans e.out)]; rfl, grownBy_drewN (grownBy_drew hgr) _⟩
      · have hd : decide (atK N t k < (N : Int)) = false := decide_eq_false hv
        have e : atK N t k = N := by omega
        have E := Lib.hid e
        clear h0 hv e
        go_wp2
        go_region_held3 (fun w' => w.grownBy w' none) (first | exact grownBy_drew hgr | assumption) (first | (go_at_call 111; refine (cv k _).mono ?_; rintro e w2 ⟨rfl, rfl⟩))
        go_wp2
        go_roundw
        case rel => exact ⟨k + 1, by omega, by go_num, all_step HL.out E.out, grownBy_drew hgr⟩
        case measure => simp [intOf]; omega
    · obtain rfl : k = cub N := by omega
      have e := Lib.hid (agN_no HL.out)
      go_wp2
      refine bodyPost_ret (results_tmp4 rfl _ _ _) rfl ?_
      exact ⟨by rw [agV_n (HA.out.trans e.out)]; rfl, hgr⟩

theorem sagof_any (n : Int) (s : ByteArray) (w : World) :
    Calls Tryz.prog 67 #[.int .i64 n, .string s] w fun e w' => e = .returned (agV n (bl s)) ∧ w.grownBy w' none := by
  cases hi : inB n 1 6
  · rw [agV_n (agI_o hi)]; exact sagof_no n s w (.inl hi)
  · cases ho : fOf (bl s) with
    | none => rw [agV_n (agI_n ho)]; exact sagof_no n s w (.inr ho)
    | some t =>
      obtain ⟨N, rfl, hN⟩ := nat_of hi
      exact sagof_yes N hN s w ho

end Go.Proofs.YtlnffpofbfigaaaGreatDoor

/-
  The model's ChainsFor. No condition.
-/
namespace Go.Proofs.YtlnffpofbfigaaaGreatDoor
open Go.RowKit

theorem chTo_none {l : List UInt8} (h : fOf l = none) (j : Nat) : chTo l j = [] := by
  induction j with
  | zero => rfl
  | succ j ih => rw [chTo_miss (alwB_n h), ih]

theorem schains_no (s : ByteArray) (w : World) (h : fOf (bl s) = none) :
    Calls Tryz.prog 69 #[.string s] w (IntsPost (chI (bl s)) w) := by
  have cf := fun w => sform_any s w
  rw [isF_f h] at cf
  have hp := Lib.hid (chI_n h)
  clear h
  go_enter Tryz.func69, Tryz.ntmps69
  go_wp2_with fail
  go_loopw [3, 4] (fun v i wr => v = .slice (some ⟨w.heap.size, 0, none⟩) 0 0 ∧ i = .int .i64 1 ∧ wr = w.alloc (.cells #[] 3)) (fun _ _ _ => 0)
  case atStart => exact ⟨rfl, rfl, rfl⟩
  case round =>
    obtain ⟨rfl, rfl, rfl⟩ := hrel
    go_wp2_with fail
    refine (cf _).mono ?_
    rintro e w2 ⟨rfl, rfl⟩
    clear cf
    go_wp2_with fail
    go_ret
    rw [hp.out]
    exact ⟨_, 0, rfl, OwnI.made w, World.grownBy_alloc _ _ none⟩

set_option maxRecDepth 100000 in
set_option maxHeartbeats 1600000 in
theorem schains_yes (s : ByteArray) (w : World) {t : Tr} (h : fOf (bl s) = some t) :
    Calls Tryz.prog 69 #[.string s] w (IntsPost (chI (bl s)) w) := by
  obtain ⟨i0, hi, hz0, hz1, hz2⟩ := info_parts infoInt
  have cf := fun w => sform_any s w
  rw [isF_t h] at cf
  have ca := fun n w => salways_any n s w
  clear h
  rw [← chTo_6]
  go_enter Tryz.func69, Tryz.ntmps69
  go_wp2_with fail
  go_loopw [3, 4] (fun v i wr => ChRel (bl s) w v i wr) (fun _ i _ => (7 - intOf i).toNat)
  case atStart => exact ⟨0, by omega, rfl, _, 0, rfl, OwnI.made w, World.grownBy_alloc _ _ none⟩
  case round =>
    obtain ⟨j, hj, rfl, a, cap, rfl, hown, hgr⟩ := hrel
    have hlen := chTo_len (bl s) j
    by_cases hlt : j < 6
    · have dj : decide ((j : Int) + 1 ≤ 6) = true := decide_eq_true (by omega)
      cases hb : alwB ((j + 1 : Nat) : Int) (bl s)
      · have e := Lib.hid (chTo_miss (l := bl s) (j := j) hb)
        have c2 : ∀ w : World, Calls Tryz.prog 64 #[.int .i64 ((j : Int) + 1), .string s] w fun e w' => e = .returned (.bool false) ∧ w.grownBy w' none := fun w => by have := ca ((j + 1 : Nat) : Int) w; rw [hb] at this; exact this
        clear hb ca
        go_wp2_with fail
        refine (cf _).mono ?_
        rintro e w2 ⟨rfl, rfl⟩
        clear cf
        go_wp2_with fail
        refine (c2 _).mono ?_
        rintro e w3 ⟨rfl, hg2⟩
        replace hown := hown.kept hg2
        replace hgr := grownBy_trans hgr hg2
        clear c2
        go_wp2_with fail
        go_roundw
        case rel => exact ⟨j + 1, by omega, by go_num, a, cap, by rw [e.out], by rw [e.out]; exact hown, hgr⟩
        case measure => simp [intOf]; omega
      · have e := Lib.hid (chTo_hit (l := bl s) (j := j) hb)
        have c2 : ∀ w : World, Calls Tryz.prog 64 #[.int .i64 ((j : Int) + 1), .string s] w fun e w' => e = .returned (.bool true) ∧ w.grownBy w' none := fun w => by have := ca ((j + 1 : Nat) : Int) w; rw [hb] at this; exact this
        clear hb ca
        go_wp2_with fail
        refine (cf _).mono ?_
        rintro e w2 ⟨rfl, rfl⟩
        clear cf
        go_wp2_with fail
        refine (c2 _).mono ?_
        rintro e w3 ⟨rfl, hg2⟩
        replace hown := hown.kept hg2
        replace hgr := grownBy_trans hgr hg2
        clear c2
        go_wp2_with (at_builtin; refine wpList_append_own _ rfl _ _ 102 rfl w.heap.size 3 i0 (.int .i64 0) 1 8 Tryz.underlying102 hi hz0 hz1 hz2 rfl (by decide) _ _ _ rfl (World.ownsRow.alloc hown _) ⟨w3.heap.size, 0, none⟩ 1 1 [.int .i64 ((j : Int) + 1)] rfl rfl ?c1 ?c2 ?c3 ?c4 ?c5 ?_)
        case c1 =>
          intro j u hj
          match j, hj with
          | 0, hj => simp at hj; subst hj; simp [Addr.add]
        case c2 => intro u hu; simp at hu; subst hu; rfl
        case c3 => unfold maxLen; omega
        case c4 => omega
        case c5 => have := hgr.size; simp; omega
        intro v' w4 hown' hgrow _
        have R := row_more hown hgr hown' (grow_box hgrow)
        rw [show ((j : Int) + 1) = ((j + 1 : Nat) : Int) from rfl, ← e.out] at R
        clear hown hown' hgrow
        go_wp2
        go_roundw
        case rel => exact ⟨j + 1, by omega, by go_num, R⟩
        case measure => simp [intOf]; omega
    · obtain rfl : j = 6 := by omega
      clear cf ca
      go_wp2
      go_ret
      exact ⟨a, cap, rfl, hown, hgr⟩

theorem schains_any (s : ByteArray) (w : World) :
    Calls Tryz.prog 69 #[.string s] w (IntsPost (chI (bl s)) w) := by
  cases h : fOf (bl s) with
  | none => exact schains_no s w h
  | some t => exact schains_yes s w h

end Go.Proofs.YtlnffpofbfigaaaGreatDoor

/-
  The model's DeskLine at a line of one word that asks.
-/
namespace Go.Proofs.YtlnffpofbfigaaaGreatDoor
open Go.RowKit

theorem ints3 (w : World) (x y z : Int) : IntsAt (w.alloc (.cells #[.int .i64 x, .int .i64 y, .int .i64 z] 3)) (some ⟨w.heap.size, 0, none⟩) [x, y, z] :=
  OwnI.at (base := w.heap.size) (cap := 3) (World.ownsRow_lit (e := 3) (size := 1) w #[.int .i64 x, .int .i64 y, .int .i64 z] 3 (Nat.le_refl _) (by unfold maxLen; omega) rfl) (by unfold maxLen; simp)

set_option maxRecDepth 8000 in
set_option maxHeartbeats 2000000 in
theorem sdl_q0 (N : Nat) (s : List UInt8) (xs : List Ld) (a : Option Addr) (cap : Nat) (w : World) (hN : NowOk N s) (h : LdsAt w a xs) (h0 : a = none → cap = 0) (hd : dkB (((N : Int), s), xs) = true) :
    Calls Tryz.prog 21 #[.agg #[.int .i64 N, .string (bs s), .slice a xs.length cap], .string (bs [115, 116, 101, 112, 115])] w (LinePost (((N, s), xs), ansQ N s 0) w) := by
  have g2 : w.grownBy ((w.alloc (.cells #[.int .i64 N, .string (bs s), .slice a xs.length cap] 32)).alloc (.cells #[.int .i64 0, .string ⟨#[]⟩, .slice none 0 0] 32)) none := grownBy_trans (World.grownBy_alloc w _ none) (World.grownBy_alloc _ _ none)
  have hZ := Lib.hid (CellsAt.second w (.cells #[.int .i64 N, .string (bs s), .slice a xs.length cap] 32) #[.int .i64 0, .string ⟨#[]⟩, .slice none 0 0] 32)
  have hD := Lib.hid (CellsAt.first w (.cells #[.int .i64 0, .string ⟨#[]⟩, .slice none 0 0] 32) #[.int .i64 N, .string (bs s), .slice a xs.length cap] 32)
  have ck := sdesk_is ((N, s), xs) a cap _ (h.grown g2)
  rw [hd] at ck
  unfold dkV at ck
  have cr := fun w => srd_v [115, 116, 101, 112, 115] _ (rdV_none (by decide)) w (by decide)
  unfold ddV nilDd at cr
  rw [show bs ([] : List UInt8) = ⟨#[]⟩ from rfl] at cr
  have hx8 : xs.length ≤ 9 := by have := (dkB_of hd).2.2; change xs.length ≤ 8 at this; omega
  have cc : ∀ W, LdsAt W a xs → Calls Tryz.prog 60 #[.agg #[.int .i64 N, .string (bs s), .slice a xs.length cap]] W fun e w' => ∃ a' cap', e = .returned (.agg #[.int .i64 N, .string (bs s), .slice a' xs.length cap']) ∧ Own2 w' W.heap.size a' cap' xs ∧ W.grownBy w' none := fun W hW => scopy_any ((N, s), xs) a cap W hW h0 hx8
  have HX := Lib.hid (h.grown g2)
  have G2 := Lib.hid g2
  have HN := Lib.hid hN
  obtain ⟨U, hU⟩ : ∃ U, U = bs [115, 116, 101, 112, 115] := ⟨_, rfl⟩
  rw [← hU] at cr ⊢
  have u0 : (U.toList == [115, 116, 101, 112, 115]) = true := by rw [hU, toL_bs]; decide
  have cn := fun W => num99_any N (by have := hN.1; omega) W
  rw [show bs (decL N) = ansQ N s 0 from rfl] at cn
  obtain ⟨Y, hY⟩ : ∃ Y, Y = ansQ N s 0 := ⟨_, rfl⟩
  rw [← hY] at cn ⊢
  clear hY
  clear h g2 hd hx8 hU
  go_enter Tryz.func21, Tryz.ntmps21
  go_wp2_with fail
  generalize (w.alloc (.cells #[.int .i64 N, .string (bs s), .slice a xs.length cap] 32)).alloc (.cells #[.int .i64 0, .string ⟨#[]⟩, .slice none 0 0] 32) = W at *
  refine ck.mono ?_
  rintro e w1 ⟨rfl, hg1⟩
  have G1 := Lib.hid (grownBy_trans G2.out hg1)
  have HX1 := Lib.hid (HX.out.grown hg1)
  have hD1 := Lib.hid (hD.out.grown hg1)
  have hZ1 := Lib.hid (hZ.out.grown hg1)
  obtain ⟨d0, d1, d2⟩ := hD1.out.three
  clear ck hg1
  go_wp2_with fail
  refine (cc _ HX1.out).mono ?_
  rintro e w2 ⟨a', c', rfl, ho, hg2⟩
  have gA := World.grownBy_alloc w2 (.cells #[.int .i64 N, .string (bs s), .slice a' xs.length c'] 32) none
  have g12 := grownBy_trans hg2 gA
  have G12 := Lib.hid (grownBy_trans G1.out g12)
  have hD2 := Lib.hid (hD1.out.grown g12)
  have hZ2 := Lib.hid (hZ1.out.grown g12)
  have hS2 := Lib.hid (CellsAt.new w2 #[.int .i64 N, .string (bs s), .slice a' xs.length c'] 32)
  have HO := Lib.hid ((ho.kept gA).l.mono G1.out.size)
  have HB := Lib.hid ho.bare
  have hb2 : Hid (w.heap.size + 2 ≤ w2.heap.size) := Lib.hid (by
    have := hZ1.out.lt; have := hg2.size; omega)
  clear cc ho hg2 gA g12 d0 d1 d2
  go_wp2_with fail
  generalize w2.alloc (.cells #[.int .i64 N, .string (bs s), .slice a' xs.length c'] 32) = W2 at *
  generalize w2.heap.size = sb at *
  refine (cr _).mono ?_
  rintro e w3 ⟨rfl, hg3⟩
  have gA3 := grownBy_trans hg3 (World.grownBy_alloc w3 (.cells #[.int .i64 0, .int .i64 0, .string ⟨#[]⟩] 40) none)
  have G3 := Lib.hid (grownBy_trans G12.out gA3)
  have hD3 := Lib.hid (hD2.out.grown gA3)
  have hZ3 := Lib.hid (hZ2.out.grown gA3)
  have hS3 := Lib.hid (hS2.out.grown gA3)
  have HO3 := Lib.hid (HO.out.kept gA3)
  obtain ⟨d0, d1, d2⟩ := hD3.out.three
  obtain ⟨s0, s1, s2⟩ := hS3.out.three
  obtain ⟨⟨y0, y1, y2⟩, v0, v1, v2⟩ := dk_facts hZ3.out
  clear cr hg3 gA3
  go_wp2_with fail
  generalize w3.alloc (.cells #[.int .i64 0, .int .i64 0, .string ⟨#[]⟩] 40) = W3 at *
  go_region_with (first | (go_at_call 62; (with_reducible refine (cn _).mono ?_); rintro e wn ⟨rfl, gn⟩; have GN := Lib.hid (drew_grown gn); have HZn := Lib.hid (hZ3.out.grown GN.out); obtain ⟨s0n, s1n, s2n⟩ := (hS3.out.grown GN.out).three; obtain ⟨⟨y0, y1, y2⟩, v0, v1, v2⟩ := dk_facts HZn.out; have HO := Lib.hid (HO3.out.kept GN.out); clear gn))
  all_goals go_wp2_with fail
  all_goals
    have P : LinePost (((N, s), xs), Y) w (.returned (.tuple #[.agg #[.int .i64 N, .string (bs s), .slice a' xs.length c'], .string Y])) (((wn.setCell ⟨w.heap.size + 1, 0, none⟩ (.int .i64 N)).setCell ⟨w.heap.size + 1, 1, none⟩ (.string (bs s))).setCell ⟨w.heap.size + 1, 2, none⟩ (.slice a' xs.length c')) :=
      ⟨a', c', rfl, HO.out.put3 ⟨_, HZn.out⟩ _ _ _, HB.out, put3_grown _ (grownBy_trans G3.out GN.out) (by omega) _ _ _⟩
    exact bodyPost_ret (v := .tuple #[.agg #[.int .i64 N, .string (bs s), .slice a' xs.length c'], .string Y]) (resDkB (b := .string Y) rfl _ rfl rfl (HZn.out.put3 (.int .i64 N) (.string (bs s)) (.slice a' xs.length c'))) rfl P

set_option maxRecDepth 8000 in
set_option maxHeartbeats 2000000 in
theorem sdl_q1 (N : Nat) (s : List UInt8) (xs : List Ld) (a : Option Addr) (cap : Nat) (w : World) (hN : NowOk N s) (h : LdsAt w a xs) (h0 : a = none → cap = 0) (hd : dkB (((N : Int), s), xs) = true) :
    Calls Tryz.prog 21 #[.agg #[.int .i64 N, .string (bs s), .slice a xs.length cap], .string (bs [116, 101, 120, 116])] w (LinePost (((N, s), xs), ansQ N s 1) w) := by
  have g2 : w.grownBy ((w.alloc (.cells #[.int .i64 N, .string (bs s), .slice a xs.length cap] 32)).alloc (.cells #[.int .i64 0, .string ⟨#[]⟩, .slice none 0 0] 32)) none := grownBy_trans (World.grownBy_alloc w _ none) (World.grownBy_alloc _ _ none)
  have hZ := Lib.hid (CellsAt.second w (.cells #[.int .i64 N, .string (bs s), .slice a xs.length cap] 32) #[.int .i64 0, .string ⟨#[]⟩, .slice none 0 0] 32)
  have hD := Lib.hid (CellsAt.first w (.cells #[.int .i64 0, .string ⟨#[]⟩, .slice none 0 0] 32) #[.int .i64 N, .string (bs s), .slice a xs.length cap] 32)
  have ck := sdesk_is ((N, s), xs) a cap _ (h.grown g2)
  rw [hd] at ck
  unfold dkV at ck
  have cr := fun w => srd_v [116, 101, 120, 116] _ (rdV_none (by decide)) w (by decide)
  unfold ddV nilDd at cr
  rw [show bs ([] : List UInt8) = ⟨#[]⟩ from rfl] at cr
  have hx8 : xs.length ≤ 9 := by have := (dkB_of hd).2.2; change xs.length ≤ 8 at this; omega
  have cc : ∀ W, LdsAt W a xs → Calls Tryz.prog 60 #[.agg #[.int .i64 N, .string (bs s), .slice a xs.length cap]] W fun e w' => ∃ a' cap', e = .returned (.agg #[.int .i64 N, .string (bs s), .slice a' xs.length cap']) ∧ Own2 w' W.heap.size a' cap' xs ∧ W.grownBy w' none := fun W hW => scopy_any ((N, s), xs) a cap W hW h0 hx8
  have HX := Lib.hid (h.grown g2)
  have G2 := Lib.hid g2
  have HN := Lib.hid hN
  obtain ⟨U, hU⟩ : ∃ U, U = bs [116, 101, 120, 116] := ⟨_, rfl⟩
  rw [← hU] at cr ⊢
  have u0 : (U.toList == [115, 116, 101, 112, 115]) = false := by rw [hU, toL_bs]; decide
  have u1 : (U.toList == [116, 101, 120, 116]) = true := by rw [hU, toL_bs]; decide
  rw [show ansQ N s 1 = bs s from rfl]
  clear h g2 hd hx8 hU
  go_enter Tryz.func21, Tryz.ntmps21
  go_wp2_with fail
  generalize (w.alloc (.cells #[.int .i64 N, .string (bs s), .slice a xs.length cap] 32)).alloc (.cells #[.int .i64 0, .string ⟨#[]⟩, .slice none 0 0] 32) = W at *
  refine ck.mono ?_
  rintro e w1 ⟨rfl, hg1⟩
  have G1 := Lib.hid (grownBy_trans G2.out hg1)
  have HX1 := Lib.hid (HX.out.grown hg1)
  have hD1 := Lib.hid (hD.out.grown hg1)
  have hZ1 := Lib.hid (hZ.out.grown hg1)
  obtain ⟨d0, d1, d2⟩ := hD1.out.three
  clear ck hg1
  go_wp2_with fail
  refine (cc _ HX1.out).mono ?_
  rintro e w2 ⟨a', c', rfl, ho, hg2⟩
  have gA := World.grownBy_alloc w2 (.cells #[.int .i64 N, .string (bs s), .slice a' xs.length c'] 32) none
  have g12 := grownBy_trans hg2 gA
  have G12 := Lib.hid (grownBy_trans G1.out g12)
  have hD2 := Lib.hid (hD1.out.grown g12)
  have hZ2 := Lib.hid (hZ1.out.grown g12)
  have hS2 := Lib.hid (CellsAt.new w2 #[.int .i64 N, .string (bs s), .slice a' xs.length c'] 32)
  have HO := Lib.hid ((ho.kept gA).l.mono G1.out.size)
  have HB := Lib.hid ho.bare
  have hb2 : Hid (w.heap.size + 2 ≤ w2.heap.size) := Lib.hid (by
    have := hZ1.out.lt; have := hg2.size; omega)
  clear cc ho hg2 gA g12 d0 d1 d2
  go_wp2_with fail
  generalize w2.alloc (.cells #[.int .i64 N, .string (bs s), .slice a' xs.length c'] 32) = W2 at *
  generalize w2.heap.size = sb at *
  refine (cr _).mono ?_
  rintro e w3 ⟨rfl, hg3⟩
  have gA3 := grownBy_trans hg3 (World.grownBy_alloc w3 (.cells #[.int .i64 0, .int .i64 0, .string ⟨#[]⟩] 40) none)
  have G3 := Lib.hid (grownBy_trans G12.out gA3)
  have hD3 := Lib.hid (hD2.out.grown gA3)
  have hZ3 := Lib.hid (hZ2.out.grown gA3)
  have hS3 := Lib.hid (hS2.out.grown gA3)
  have HO3 := Lib.hid (HO.out.kept gA3)
  obtain ⟨d0, d1, d2⟩ := hD3.out.three
  obtain ⟨s0, s1, s2⟩ := hS3.out.three
  obtain ⟨⟨y0, y1, y2⟩, v0, v1, v2⟩ := dk_facts hZ3.out
  clear cr hg3 gA3
  go_wp2_with fail
  generalize w3.alloc (.cells #[.int .i64 0, .int .i64 0, .string ⟨#[]⟩] 40) = W3 at *
  have HZn := hZ3
  have HO := HO3
  have GN : Hid (W3.grownBy W3 none) := Lib.hid (grownBy_refl _ _)
  have P : LinePost (((N, s), xs), (bs s)) w (.returned (.tuple #[.agg #[.int .i64 N, .string (bs s), .slice a' xs.length c'], .string (bs s)])) (((W3.setCell ⟨w.heap.size + 1, 0, none⟩ (.int .i64 N)).setCell ⟨w.heap.size + 1, 1, none⟩ (.string (bs s))).setCell ⟨w.heap.size + 1, 2, none⟩ (.slice a' xs.length c')) :=
    ⟨a', c', rfl, HO.out.put3 ⟨_, HZn.out⟩ _ _ _, HB.out, put3_grown _ (grownBy_trans G3.out GN.out) (by omega) _ _ _⟩
  exact bodyPost_ret (v := .tuple #[.agg #[.int .i64 N, .string (bs s), .slice a' xs.length c'], .string (bs s)]) (resDkB (b := .string (bs s)) rfl _ rfl rfl (HZn.out.put3 (.int .i64 N) (.string (bs s)) (.slice a' xs.length c'))) rfl P

set_option maxRecDepth 8000 in
set_option maxHeartbeats 2000000 in
theorem sdl_q2 (N : Nat) (s : List UInt8) (xs : List Ld) (a : Option Addr) (cap : Nat) (w : World) (hN : NowOk N s) (h : LdsAt w a xs) (h0 : a = none → cap = 0) (hd : dkB (((N : Int), s), xs) = true) :
    Calls Tryz.prog 21 #[.agg #[.int .i64 N, .string (bs s), .slice a xs.length cap], .string (bs [97, 108, 119, 97, 121, 115])] w (LinePost (((N, s), xs), ansQ N s 2) w) := by
  have g2 : w.grownBy ((w.alloc (.cells #[.int .i64 N, .string (bs s), .slice a xs.length cap] 32)).alloc (.cells #[.int .i64 0, .string ⟨#[]⟩, .slice none 0 0] 32)) none := grownBy_trans (World.grownBy_alloc w _ none) (World.grownBy_alloc _ _ none)
  have hZ := Lib.hid (CellsAt.second w (.cells #[.int .i64 N, .string (bs s), .slice a xs.length cap] 32) #[.int .i64 0, .string ⟨#[]⟩, .slice none 0 0] 32)
  have hD := Lib.hid (CellsAt.first w (.cells #[.int .i64 0, .string ⟨#[]⟩, .slice none 0 0] 32) #[.int .i64 N, .string (bs s), .slice a xs.length cap] 32)
  have ck := sdesk_is ((N, s), xs) a cap _ (h.grown g2)
  rw [hd] at ck
  unfold dkV at ck
  have cr := fun w => srd_v [97, 108, 119, 97, 121, 115] _ (rdV_none (by decide)) w (by decide)
  unfold ddV nilDd at cr
  rw [show bs ([] : List UInt8) = ⟨#[]⟩ from rfl] at cr
  have hx8 : xs.length ≤ 9 := by have := (dkB_of hd).2.2; change xs.length ≤ 8 at this; omega
  have cc : ∀ W, LdsAt W a xs → Calls Tryz.prog 60 #[.agg #[.int .i64 N, .string (bs s), .slice a xs.length cap]] W fun e w' => ∃ a' cap', e = .returned (.agg #[.int .i64 N, .string (bs s), .slice a' xs.length cap']) ∧ Own2 w' W.heap.size a' cap' xs ∧ W.grownBy w' none := fun W hW => scopy_any ((N, s), xs) a cap W hW h0 hx8
  have HX := Lib.hid (h.grown g2)
  have G2 := Lib.hid g2
  have HN := Lib.hid hN
  obtain ⟨U, hU⟩ : ∃ U, U = bs [97, 108, 119, 97, 121, 115] := ⟨_, rfl⟩
  rw [← hU] at cr ⊢
  have u0 : (U.toList == [115, 116, 101, 112, 115]) = false := by rw [hU, toL_bs]; decide
  have u1 : (U.toList == [116, 101, 120, 116]) = false := by rw [hU, toL_bs]; decide
  have u2 : (U.toList == [97, 108, 119, 97, 121, 115]) = true := by rw [hU, toL_bs]; decide
  have ca : ∀ W, Calls Tryz.prog 64 #[.int .i64 N, .string (bs s)] W fun e w' => e = .returned (.bool (alwB N s)) ∧ W.grownBy w' none := fun W => salways_any N (bs s) W
  have cn := fun W => syes_any (alwB N s) W
  rw [show yesA (alwB N s) = ansQ N s 2 from rfl] at cn
  generalize alwB N s = B at ca cn
  obtain ⟨Y, hY⟩ : ∃ Y, Y = ansQ N s 2 := ⟨_, rfl⟩
  rw [← hY] at cn ⊢
  clear hY
  clear h g2 hd hx8 hU
  go_enter Tryz.func21, Tryz.ntmps21
  go_wp2_with fail
  generalize (w.alloc (.cells #[.int .i64 N, .string (bs s), .slice a xs.length cap] 32)).alloc (.cells #[.int .i64 0, .string ⟨#[]⟩, .slice none 0 0] 32) = W at *
  refine ck.mono ?_
  rintro e w1 ⟨rfl, hg1⟩
  have G1 := Lib.hid (grownBy_trans G2.out hg1)
  have HX1 := Lib.hid (HX.out.grown hg1)
  have hD1 := Lib.hid (hD.out.grown hg1)
  have hZ1 := Lib.hid (hZ.out.grown hg1)
  obtain ⟨d0, d1, d2⟩ := hD1.out.three
  clear ck hg1
  go_wp2_with fail
  refine (cc _ HX1.out).mono ?_
  rintro e w2 ⟨a', c', rfl, ho, hg2⟩
  have gA := World.grownBy_alloc w2 (.cells #[.int .i64 N, .string (bs s), .slice a' xs.length c'] 32) none
  have g12 := grownBy_trans hg2 gA
  have G12 := Lib.hid (grownBy_trans G1.out g12)
  have hD2 := Lib.hid (hD1.out.grown g12)
  have hZ2 := Lib.hid (hZ1.out.grown g12)
  have hS2 := Lib.hid (CellsAt.new w2 #[.int .i64 N, .string (bs s), .slice a' xs.length c'] 32)
  have HO := Lib.hid ((ho.kept gA).l.mono G1.out.size)
  have HB := Lib.hid ho.bare
  have hb2 : Hid (w.heap.size + 2 ≤ w2.heap.size) := Lib.hid (by
    have := hZ1.out.lt; have := hg2.size; omega)
  clear cc ho hg2 gA g12 d0 d1 d2
  go_wp2_with fail
  generalize w2.alloc (.cells #[.int .i64 N, .string (bs s), .slice a' xs.length c'] 32) = W2 at *
  generalize w2.heap.size = sb at *
  refine (cr _).mono ?_
  rintro e w3 ⟨rfl, hg3⟩
  have gA3 := grownBy_trans hg3 (World.grownBy_alloc w3 (.cells #[.int .i64 0, .int .i64 0, .string ⟨#[]⟩] 40) none)
  have G3 := Lib.hid (grownBy_trans G12.out gA3)
  have hD3 := Lib.hid (hD2.out.grown gA3)
  have hZ3 := Lib.hid (hZ2.out.grown gA3)
  have hS3 := Lib.hid (hS2.out.grown gA3)
  have HO3 := Lib.hid (HO.out.kept gA3)
  obtain ⟨d0, d1, d2⟩ := hD3.out.three
  obtain ⟨s0, s1, s2⟩ := hS3.out.three
  obtain ⟨⟨y0, y1, y2⟩, v0, v1, v2⟩ := dk_facts hZ3.out
  clear cr hg3 gA3
  go_wp2_with fail
  generalize w3.alloc (.cells #[.int .i64 0, .int .i64 0, .string ⟨#[]⟩] 40) = W3 at *
  go_region_with (first | (go_at_call 64; (with_reducible refine (ca _).mono ?_); rintro e wa ⟨rfl, ga⟩; have GA := Lib.hid (drew_grown ga); obtain ⟨s0a, s1a, s2a⟩ := (hS3.out.grown GA.out).three; clear ga) | (go_at_call 63; (with_reducible refine (cn _).mono ?_); rintro e _ ⟨rfl, rfl⟩; have GN := Lib.hid (GA.out); have HZn := Lib.hid (hZ3.out.grown GN.out); obtain ⟨s0n, s1n, s2n⟩ := (hS3.out.grown GN.out).three; obtain ⟨⟨y0, y1, y2⟩, v0, v1, v2⟩ := dk_facts HZn.out; have HO := Lib.hid (HO3.out.kept GN.out)))
  all_goals go_wp2_with fail
  all_goals
    have P : LinePost (((N, s), xs), Y) w (.returned (.tuple #[.agg #[.int .i64 N, .string (bs s), .slice a' xs.length c'], .string Y])) (((wa.setCell ⟨w.heap.size + 1, 0, none⟩ (.int .i64 N)).setCell ⟨w.heap.size + 1, 1, none⟩ (.string (bs s))).setCell ⟨w.heap.size + 1, 2, none⟩ (.slice a' xs.length c')) :=
      ⟨a', c', rfl, HO.out.put3 ⟨_, HZn.out⟩ _ _ _, HB.out, put3_grown _ (grownBy_trans G3.out GN.out) (by omega) _ _ _⟩
    exact bodyPost_ret (v := .tuple #[.agg #[.int .i64 N, .string (bs s), .slice a' xs.length c'], .string Y]) (resDkB (b := .string Y) rfl _ rfl rfl (HZn.out.put3 (.int .i64 N) (.string (bs s)) (.slice a' xs.length c'))) rfl P

set_option maxRecDepth 8000 in
set_option maxHeartbeats 2000000 in
theorem sdl_q3 (N : Nat) (s : List UInt8) (xs : List Ld) (a : Option Addr) (cap : Nat) (w : World) (hN : NowOk N s) (h : LdsAt w a xs) (h0 : a = none → cap = 0) (hd : dkB (((N : Int), s), xs) = true) :
    Calls Tryz.prog 21 #[.agg #[.int .i64 N, .string (bs s), .slice a xs.length cap], .string (bs [108, 101, 97, 115, 116])] w (LinePost (((N, s), xs), ansQ N s 3) w) := by
  have g2 : w.grownBy ((w.alloc (.cells #[.int .i64 N, .string (bs s), .slice a xs.length cap] 32)).alloc (.cells #[.int .i64 0, .string ⟨#[]⟩, .slice none 0 0] 32)) none := grownBy_trans (World.grownBy_alloc w _ none) (World.grownBy_alloc _ _ none)
  have hZ := Lib.hid (CellsAt.second w (.cells #[.int .i64 N, .string (bs s), .slice a xs.length cap] 32) #[.int .i64 0, .string ⟨#[]⟩, .slice none 0 0] 32)
  have hD := Lib.hid (CellsAt.first w (.cells #[.int .i64 0, .string ⟨#[]⟩, .slice none 0 0] 32) #[.int .i64 N, .string (bs s), .slice a xs.length cap] 32)
  have ck := sdesk_is ((N, s), xs) a cap _ (h.grown g2)
  rw [hd] at ck
  unfold dkV at ck
  have cr := fun w => srd_v [108, 101, 97, 115, 116] _ (rdV_none (by decide)) w (by decide)
  unfold ddV nilDd at cr
  rw [show bs ([] : List UInt8) = ⟨#[]⟩ from rfl] at cr
  have hx8 : xs.length ≤ 9 := by have := (dkB_of hd).2.2; change xs.length ≤ 8 at this; omega
  have cc : ∀ W, LdsAt W a xs → Calls Tryz.prog 60 #[.agg #[.int .i64 N, .string (bs s), .slice a xs.length cap]] W fun e w' => ∃ a' cap', e = .returned (.agg #[.int .i64 N, .string (bs s), .slice a' xs.length cap']) ∧ Own2 w' W.heap.size a' cap' xs ∧ W.grownBy w' none := fun W hW => scopy_any ((N, s), xs) a cap W hW h0 hx8
  have HX := Lib.hid (h.grown g2)
  have G2 := Lib.hid g2
  have HN := Lib.hid hN
  obtain ⟨U, hU⟩ : ∃ U, U = bs [108, 101, 97, 115, 116] := ⟨_, rfl⟩
  rw [← hU] at cr ⊢
  have u0 : (U.toList == [115, 116, 101, 112, 115]) = false := by rw [hU, toL_bs]; decide
  have u1 : (U.toList == [116, 101, 120, 116]) = false := by rw [hU, toL_bs]; decide
  have u2 : (U.toList == [97, 108, 119, 97, 121, 115]) = false := by rw [hU, toL_bs]; decide
  have u3 : (U.toList == [108, 101, 97, 115, 116]) = true := by rw [hU, toL_bs]; decide
  have ca : ∀ W, Calls Tryz.prog 66 #[.int .i64 N, .string (bs s)] W fun e w' => e = .returned (.int .i64 (leastI N s)) ∧ W.grownBy w' none := fun W => sleast_any N (bs s) W
  have cn : ∀ W, Calls Tryz.prog 65 #[.int .i64 N, .int .i64 (leastI N s)] W fun e w' => e = .returned (.string (ansQ N s 3)) ∧ W.grownBy w' none := fun W => stext_any N (leastI N s) W
  generalize leastI N s = B at ca cn
  obtain ⟨Y, hY⟩ : ∃ Y, Y = ansQ N s 3 := ⟨_, rfl⟩
  rw [← hY] at cn ⊢
  clear hY
  clear h g2 hd hx8 hU
  go_enter Tryz.func21, Tryz.ntmps21
  go_wp2_with fail
  generalize (w.alloc (.cells #[.int .i64 N, .string (bs s), .slice a xs.length cap] 32)).alloc (.cells #[.int .i64 0, .string ⟨#[]⟩, .slice none 0 0] 32) = W at *
  refine ck.mono ?_
  rintro e w1 ⟨rfl, hg1⟩
  have G1 := Lib.hid (grownBy_trans G2.out hg1)
  have HX1 := Lib.hid (HX.out.grown hg1)
  have hD1 := Lib.hid (hD.out.grown hg1)
  have hZ1 := Lib.hid (hZ.out.grown hg1)
  obtain ⟨d0, d1, d2⟩ := hD1.out.three
  clear ck hg1
  go_wp2_with fail
  refine (cc _ HX1.out).mono ?_
  rintro e w2 ⟨a', c', rfl, ho, hg2⟩
  have gA := World.grownBy_alloc w2 (.cells #[.int .i64 N, .string (bs s), .slice a' xs.length c'] 32) none
  have g12 := grownBy_trans hg2 gA
  have G12 := Lib.hid (grownBy_trans G1.out g12)
  have hD2 := Lib.hid (hD1.out.grown g12)
  have hZ2 := Lib.hid (hZ1.out.grown g12)
  have hS2 := Lib.hid (CellsAt.new w2 #[.int .i64 N, .string (bs s), .slice a' xs.length c'] 32)
  have HO := Lib.hid ((ho.kept gA).l.mono G1.out.size)
  have HB := Lib.hid ho.bare
  have hb2 : Hid (w.heap.size + 2 ≤ w2.heap.size) := Lib.hid (by
    have := hZ1.out.lt; have := hg2.size; omega)
  clear cc ho hg2 gA g12 d0 d1 d2
  go_wp2_with fail
  generalize w2.alloc (.cells #[.int .i64 N, .string (bs s), .slice a' xs.length c'] 32) = W2 at *
  generalize w2.heap.size = sb at *
  refine (cr _).mono ?_
  rintro e w3 ⟨rfl, hg3⟩
  have gA3 := grownBy_trans hg3 (World.grownBy_alloc w3 (.cells #[.int .i64 0, .int .i64 0, .string ⟨#[]⟩] 40) none)
  have G3 := Lib.hid (grownBy_trans G12.out gA3)
  have hD3 := Lib.hid (hD2.out.grown gA3)
  have hZ3 := Lib.hid (hZ2.out.grown gA3)
  have hS3 := Lib.hid (hS2.out.grown gA3)
  have HO3 := Lib.hid (HO.out.kept gA3)
  obtain ⟨d0, d1, d2⟩ := hD3.out.three
  obtain ⟨s0, s1, s2⟩ := hS3.out.three
  obtain ⟨⟨y0, y1, y2⟩, v0, v1, v2⟩ := dk_facts hZ3.out
  clear cr hg3 gA3
  go_wp2_with fail
  generalize w3.alloc (.cells #[.int .i64 0, .int .i64 0, .string ⟨#[]⟩] 40) = W3 at *
  go_region_with (first | (go_at_call 66; (with_reducible refine (ca _).mono ?_); rintro e wa ⟨rfl, ga⟩; have GA := Lib.hid (drew_grown ga); obtain ⟨s0a, s1a, s2a⟩ := (hS3.out.grown GA.out).three; clear ga) | (go_at_call 65; (with_reducible refine (cn _).mono ?_); rintro e wn ⟨rfl, gn⟩; have GN := Lib.hid (grownBy_trans GA.out gn); have HZn := Lib.hid (hZ3.out.grown GN.out); obtain ⟨s0n, s1n, s2n⟩ := (hS3.out.grown GN.out).three; obtain ⟨⟨y0, y1, y2⟩, v0, v1, v2⟩ := dk_facts HZn.out; have HO := Lib.hid (HO3.out.kept GN.out); clear gn))
  all_goals go_wp2_with fail
  all_goals
    have P : LinePost (((N, s), xs), Y) w (.returned (.tuple #[.agg #[.int .i64 N, .string (bs s), .slice a' xs.length c'], .string Y])) (((wn.setCell ⟨w.heap.size + 1, 0, none⟩ (.int .i64 N)).setCell ⟨w.heap.size + 1, 1, none⟩ (.string (bs s))).setCell ⟨w.heap.size + 1, 2, none⟩ (.slice a' xs.length c')) :=
      ⟨a', c', rfl, HO.out.put3 ⟨_, HZn.out⟩ _ _ _, HB.out, put3_grown _ (grownBy_trans G3.out GN.out) (by omega) _ _ _⟩
    exact bodyPost_ret (v := .tuple #[.agg #[.int .i64 N, .string (bs s), .slice a' xs.length c'], .string Y]) (resDkB (b := .string Y) rfl _ rfl rfl (HZn.out.put3 (.int .i64 N) (.string (bs s)) (.slice a' xs.length c'))) rfl P

set_option maxRecDepth 8000 in
set_option maxHeartbeats 2000000 in
theorem sdl_q4n (N : Nat) (s : List UInt8) (xs : List Ld) (hk : agI N s = none) (a : Option Addr) (cap : Nat) (w : World) (hN : NowOk N s) (h : LdsAt w a xs) (h0 : a = none → cap = 0) (hd : dkB (((N : Int), s), xs) = true) :
    Calls Tryz.prog 21 #[.agg #[.int .i64 N, .string (bs s), .slice a xs.length cap], .string (bs [97, 103, 97, 105, 110, 115, 116])] w (LinePost (((N, s), xs), ansQ N s 4) w) := by
  have g2 : w.grownBy ((w.alloc (.cells #[.int .i64 N, .string (bs s), .slice a xs.length cap] 32)).alloc (.cells #[.int .i64 0, .string ⟨#[]⟩, .slice none 0 0] 32)) none := grownBy_trans (World.grownBy_alloc w _ none) (World.grownBy_alloc _ _ none)
  have hZ := Lib.hid (CellsAt.second w (.cells #[.int .i64 N, .string (bs s), .slice a xs.length cap] 32) #[.int .i64 0, .string ⟨#[]⟩, .slice none 0 0] 32)
  have hD := Lib.hid (CellsAt.first w (.cells #[.int .i64 0, .string ⟨#[]⟩, .slice none 0 0] 32) #[.int .i64 N, .string (bs s), .slice a xs.length cap] 32)
  have ck := sdesk_is ((N, s), xs) a cap _ (h.grown g2)
  rw [hd] at ck
  unfold dkV at ck
  have cr := fun w => srd_v [97, 103, 97, 105, 110, 115, 116] _ (rdV_none (by decide)) w (by decide)
  unfold ddV nilDd at cr
  rw [show bs ([] : List UInt8) = ⟨#[]⟩ from rfl] at cr
  have hx8 : xs.length ≤ 9 := by have := (dkB_of hd).2.2; change xs.length ≤ 8 at this; omega
  have cc : ∀ W, LdsAt W a xs → Calls Tryz.prog 60 #[.agg #[.int .i64 N, .string (bs s), .slice a xs.length cap]] W fun e w' => ∃ a' cap', e = .returned (.agg #[.int .i64 N, .string (bs s), .slice a' xs.length cap']) ∧ Own2 w' W.heap.size a' cap' xs ∧ W.grownBy w' none := fun W hW => scopy_any ((N, s), xs) a cap W hW h0 hx8
  have HX := Lib.hid (h.grown g2)
  have G2 := Lib.hid g2
  have HN := Lib.hid hN
  obtain ⟨U, hU⟩ : ∃ U, U = bs [97, 103, 97, 105, 110, 115, 116] := ⟨_, rfl⟩
  rw [← hU] at cr ⊢
  have u0 : (U.toList == [115, 116, 101, 112, 115]) = false := by rw [hU, toL_bs]; decide
  have u1 : (U.toList == [116, 101, 120, 116]) = false := by rw [hU, toL_bs]; decide
  have u2 : (U.toList == [97, 108, 119, 97, 121, 115]) = false := by rw [hU, toL_bs]; decide
  have u3 : (U.toList == [108, 101, 97, 115, 116]) = false := by rw [hU, toL_bs]; decide
  have u4 : (U.toList == [97, 103, 97, 105, 110, 115, 116]) = true := by rw [hU, toL_bs]; decide
  have ca : ∀ W, Calls Tryz.prog 67 #[.int .i64 N, .string (bs s)] W fun e w' => e = .returned (agV N s) ∧ W.grownBy w' none := fun W => sagof_any N (bs s) W
  rw [agV_n hk] at ca
  rw [show ansQ N s 4 = noneA from by show rowA (agL N s) = _; unfold agL; rw [hk]; rfl]
  unfold noneA
  clear h g2 hd hx8 hU hk
  go_enter Tryz.func21, Tryz.ntmps21
  go_wp2_with fail
  generalize (w.alloc (.cells #[.int .i64 N, .string (bs s), .slice a xs.length cap] 32)).alloc (.cells #[.int .i64 0, .string ⟨#[]⟩, .slice none 0 0] 32) = W at *
  refine ck.mono ?_
  rintro e w1 ⟨rfl, hg1⟩
  have G1 := Lib.hid (grownBy_trans G2.out hg1)
  have HX1 := Lib.hid (HX.out.grown hg1)
  have hD1 := Lib.hid (hD.out.grown hg1)
  have hZ1 := Lib.hid (hZ.out.grown hg1)
  obtain ⟨d0, d1, d2⟩ := hD1.out.three
  clear ck hg1
  go_wp2_with fail
  refine (cc _ HX1.out).mono ?_
  rintro e w2 ⟨a', c', rfl, ho, hg2⟩
  have gA := World.grownBy_alloc w2 (.cells #[.int .i64 N, .string (bs s), .slice a' xs.length c'] 32) none
  have g12 := grownBy_trans hg2 gA
  have G12 := Lib.hid (grownBy_trans G1.out g12)
  have hD2 := Lib.hid (hD1.out.grown g12)
  have hZ2 := Lib.hid (hZ1.out.grown g12)
  have hS2 := Lib.hid (CellsAt.new w2 #[.int .i64 N, .string (bs s), .slice a' xs.length c'] 32)
  have HO := Lib.hid ((ho.kept gA).l.mono G1.out.size)
  have HB := Lib.hid ho.bare
  have hb2 : Hid (w.heap.size + 2 ≤ w2.heap.size) := Lib.hid (by
    have := hZ1.out.lt; have := hg2.size; omega)
  clear cc ho hg2 gA g12 d0 d1 d2
  go_wp2_with fail
  generalize w2.alloc (.cells #[.int .i64 N, .string (bs s), .slice a' xs.length c'] 32) = W2 at *
  generalize w2.heap.size = sb at *
  refine (cr _).mono ?_
  rintro e w3 ⟨rfl, hg3⟩
  have gA3 := grownBy_trans hg3 (World.grownBy_alloc w3 (.cells #[.int .i64 0, .int .i64 0, .string ⟨#[]⟩] 40) none)
  have G3 := Lib.hid (grownBy_trans G12.out gA3)
  have hD3 := Lib.hid (hD2.out.grown gA3)
  have hZ3 := Lib.hid (hZ2.out.grown gA3)
  have hS3 := Lib.hid (hS2.out.grown gA3)
  have HO3 := Lib.hid (HO.out.kept gA3)
  obtain ⟨d0, d1, d2⟩ := hD3.out.three
  obtain ⟨s0, s1, s2⟩ := hS3.out.three
  obtain ⟨⟨y0, y1, y2⟩, v0, v1, v2⟩ := dk_facts hZ3.out
  clear cr hg3 gA3
  go_wp2_with fail
  generalize w3.alloc (.cells #[.int .i64 0, .int .i64 0, .string ⟨#[]⟩] 40) = W3 at *
  refine (ca _).mono ?_
  rintro e w4 ⟨rfl, hg4⟩
  have hZ4 := Lib.hid (hZ3.out.grown hg4)
  have hS4 := Lib.hid (hS3.out.grown hg4)
  have G4 := Lib.hid (grownBy_trans G3.out hg4)
  have HO4 := Lib.hid (HO3.out.kept hg4)
  obtain ⟨s0n, s1n, s2n⟩ := hS4.out.three
  obtain ⟨⟨y0n, y1n, y2n⟩, v0n, v1n, v2n⟩ := dk_facts hZ4.out
  clear ca hg4 hZ3 hS3 G3 HO3
  go_wp2_with fail
  have HZn := hZ4
  have HO := HO4
  have G3 := G4
  have GN : Hid (w4.grownBy w4 none) := Lib.hid (grownBy_refl _ _)
  have P : LinePost (((N, s), xs), ⟨#[110, 111, 110, 101]⟩) w (.returned (.tuple #[.agg #[.int .i64 N, .string (bs s), .slice a' xs.length c'], .string ⟨#[110, 111, 110, 101]⟩])) (((w4.setCell ⟨w.heap.size + 1, 0, none⟩ (.int .i64 N)).setCell ⟨w.heap.size + 1, 1, none⟩ (.string (bs s))).setCell ⟨w.heap.size + 1, 2, none⟩ (.slice a' xs.length c')) :=
    ⟨a', c', rfl, HO.out.put3 ⟨_, HZn.out⟩ _ _ _, HB.out, put3_grown _ (grownBy_trans G3.out GN.out) (by omega) _ _ _⟩
  exact bodyPost_ret (v := .tuple #[.agg #[.int .i64 N, .string (bs s), .slice a' xs.length c'], .string ⟨#[110, 111, 110, 101]⟩]) (resDkB (b := .string ⟨#[110, 111, 110, 101]⟩) rfl _ rfl rfl (HZn.out.put3 (.int .i64 N) (.string (bs s)) (.slice a' xs.length c'))) rfl P

set_option maxRecDepth 8000 in
set_option maxHeartbeats 2000000 in
theorem sdl_q4s (N : Nat) (s : List UInt8) (xs : List Ld) (k : Nat) (hk : agI N s = some k) (a : Option Addr) (cap : Nat) (w : World) (hN : NowOk N s) (h : LdsAt w a xs) (h0 : a = none → cap = 0) (hd : dkB (((N : Int), s), xs) = true) :
    Calls Tryz.prog 21 #[.agg #[.int .i64 N, .string (bs s), .slice a xs.length cap], .string (bs [97, 103, 97, 105, 110, 115, 116])] w (LinePost (((N, s), xs), ansQ N s 4) w) := by
  have g2 : w.grownBy ((w.alloc (.cells #[.int .i64 N, .string (bs s), .slice a xs.length cap] 32)).alloc (.cells #[.int .i64 0, .string ⟨#[]⟩, .slice none 0 0] 32)) none := grownBy_trans (World.grownBy_alloc w _ none) (World.grownBy_alloc _ _ none)
  have hZ := Lib.hid (CellsAt.second w (.cells #[.int .i64 N, .string (bs s), .slice a xs.length cap] 32) #[.int .i64 0, .string ⟨#[]⟩, .slice none 0 0] 32)
  have hD := Lib.hid (CellsAt.first w (.cells #[.int .i64 0, .string ⟨#[]⟩, .slice none 0 0] 32) #[.int .i64 N, .string (bs s), .slice a xs.length cap] 32)
  have ck := sdesk_is ((N, s), xs) a cap _ (h.grown g2)
  rw [hd] at ck
  unfold dkV at ck
  have cr := fun w => srd_v [97, 103, 97, 105, 110, 115, 116] _ (rdV_none (by decide)) w (by decide)
  unfold ddV nilDd at cr
  rw [show bs ([] : List UInt8) = ⟨#[]⟩ from rfl] at cr
  have hx8 : xs.length ≤ 9 := by have := (dkB_of hd).2.2; change xs.length ≤ 8 at this; omega
  have cc : ∀ W, LdsAt W a xs → Calls Tryz.prog 60 #[.agg #[.int .i64 N, .string (bs s), .slice a xs.length cap]] W fun e w' => ∃ a' cap', e = .returned (.agg #[.int .i64 N, .string (bs s), .slice a' xs.length cap']) ∧ Own2 w' W.heap.size a' cap' xs ∧ W.grownBy w' none := fun W hW => scopy_any ((N, s), xs) a cap W hW h0 hx8
  have HX := Lib.hid (h.grown g2)
  have G2 := Lib.hid g2
  have HN := Lib.hid hN
  obtain ⟨U, hU⟩ : ∃ U, U = bs [97, 103, 97, 105, 110, 115, 116] := ⟨_, rfl⟩
  rw [← hU] at cr ⊢
  have u0 : (U.toList == [115, 116, 101, 112, 115]) = false := by rw [hU, toL_bs]; decide
  have u1 : (U.toList == [116, 101, 120, 116]) = false := by rw [hU, toL_bs]; decide
  have u2 : (U.toList == [97, 108, 119, 97, 121, 115]) = false := by rw [hU, toL_bs]; decide
  have u3 : (U.toList == [108, 101, 97, 115, 116]) = false := by rw [hU, toL_bs]; decide
  have u4 : (U.toList == [97, 103, 97, 105, 110, 115, 116]) = true := by rw [hU, toL_bs]; decide
  have ca : ∀ W, Calls Tryz.prog 67 #[.int .i64 N, .string (bs s)] W fun e w' => e = .returned (agV N s) ∧ W.grownBy w' none := fun W => sagof_any N (bs s) W
  rw [agV_s hk] at ca
  have hag : agL N s = [(tA N k : Int), tB N k, tC N k] := by unfold agL; rw [hk]; rfl
  have hcx := agL_99 hN
  have cn : ∀ W ai, IntsAt W ai [(tA N k : Int), tB N k, tC N k] → Calls Tryz.prog 68 #[.slice ai 3 3] W fun e w' => e = .returned (.string (ansQ N s 4)) ∧ W.grownBy w' none := fun W ai hi => by
    have hv : ansQ N s 4 = rowA [(tA N k : Int), tB N k, tC N k] := by
      show rowA (agL N s) = _
      rw [hag]
    rw [hv]
    exact srowt_any [(tA N k : Int), tB N k, tC N k] (by rw [← hag]; exact hcx.1) (by simp) ai 3 W hi
  generalize (tA N k : Int) = X1, (tB N k : Int) = X2, (tC N k : Int) = X3 at *
  clear hag hcx
  obtain ⟨Y, hY⟩ : ∃ Y, Y = ansQ N s 4 := ⟨_, rfl⟩
  rw [← hY] at cn ⊢
  clear hY
  clear h g2 hd hx8 hU hk
  go_enter Tryz.func21, Tryz.ntmps21
  go_wp2_with fail
  generalize (w.alloc (.cells #[.int .i64 N, .string (bs s), .slice a xs.length cap] 32)).alloc (.cells #[.int .i64 0, .string ⟨#[]⟩, .slice none 0 0] 32) = W at *
  refine ck.mono ?_
  rintro e w1 ⟨rfl, hg1⟩
  have G1 := Lib.hid (grownBy_trans G2.out hg1)
  have HX1 := Lib.hid (HX.out.grown hg1)
  have hD1 := Lib.hid (hD.out.grown hg1)
  have hZ1 := Lib.hid (hZ.out.grown hg1)
  obtain ⟨d0, d1, d2⟩ := hD1.out.three
  clear ck hg1
  go_wp2_with fail
  refine (cc _ HX1.out).mono ?_
  rintro e w2 ⟨a', c', rfl, ho, hg2⟩
  have gA := World.grownBy_alloc w2 (.cells #[.int .i64 N, .string (bs s), .slice a' xs.length c'] 32) none
  have g12 := grownBy_trans hg2 gA
  have G12 := Lib.hid (grownBy_trans G1.out g12)
  have hD2 := Lib.hid (hD1.out.grown g12)
  have hZ2 := Lib.hid (hZ1.out.grown g12)
  have hS2 := Lib.hid (CellsAt.new w2 #[.int .i64 N, .string (bs s), .slice a' xs.length c'] 32)
  have HO := Lib.hid ((ho.kept gA).l.mono G1.out.size)
  have HB := Lib.hid ho.bare
  have hb2 : Hid (w.heap.size + 2 ≤ w2.heap.size) := Lib.hid (by
    have := hZ1.out.lt; have := hg2.size; omega)
  clear cc ho hg2 gA g12 d0 d1 d2
  go_wp2_with fail
  generalize w2.alloc (.cells #[.int .i64 N, .string (bs s), .slice a' xs.length c'] 32) = W2 at *
  generalize w2.heap.size = sb at *
  refine (cr _).mono ?_
  rintro e w3 ⟨rfl, hg3⟩
  have gA3 := grownBy_trans hg3 (World.grownBy_alloc w3 (.cells #[.int .i64 0, .int .i64 0, .string ⟨#[]⟩] 40) none)
  have G3 := Lib.hid (grownBy_trans G12.out gA3)
  have hD3 := Lib.hid (hD2.out.grown gA3)
  have hZ3 := Lib.hid (hZ2.out.grown gA3)
  have hS3 := Lib.hid (hS2.out.grown gA3)
  have HO3 := Lib.hid (HO.out.kept gA3)
  obtain ⟨d0, d1, d2⟩ := hD3.out.three
  obtain ⟨s0, s1, s2⟩ := hS3.out.three
  obtain ⟨⟨y0, y1, y2⟩, v0, v1, v2⟩ := dk_facts hZ3.out
  clear cr hg3 gA3
  go_wp2_with fail
  generalize w3.alloc (.cells #[.int .i64 0, .int .i64 0, .string ⟨#[]⟩] 40) = W3 at *
  refine (ca _).mono ?_
  rintro e w4 ⟨rfl, hg4⟩
  have hZ4 := Lib.hid (hZ3.out.grown hg4)
  have hS4 := Lib.hid (hS3.out.grown hg4)
  have G4 := Lib.hid (grownBy_trans G3.out hg4)
  have HO4 := Lib.hid (HO3.out.kept hg4)
  obtain ⟨s0n, s1n, s2n⟩ := hS4.out.three
  obtain ⟨⟨y0n, y1n, y2n⟩, v0n, v1n, v2n⟩ := dk_facts hZ4.out
  clear ca hg4 hZ3 hS3 G3 HO3
  go_wp2_with fail
  have m0 : ∀ o, (w4.alloc o).cell? ⟨sb, 0, none⟩ = some (.int .i64 N) := fun o => (hS4.out.grown (World.grownBy_alloc w4 o none)).three.1
  have m1 : ∀ o, (w4.alloc o).cell? ⟨sb, 1, none⟩ = some (.string (bs s)) := fun o => (hS4.out.grown (World.grownBy_alloc w4 o none)).three.2.1
  have m2 : ∀ o, (w4.alloc o).cell? ⟨sb, 2, none⟩ = some (.slice a' xs.length c') := fun o => (hS4.out.grown (World.grownBy_alloc w4 o none)).three.2.2
  have hZ3 := hZ4
  have hS3 := hS4
  have G3 := G4
  have HO3 := HO4
  go_region_with (first | (go_at_call 68; (first | (with_reducible refine (cn _ _ ((ints3 w4 X1 X2 X3).grown (grownBy_drew (grownBy_refl _ _)))).mono ?_) | (with_reducible refine (cn _ _ (ints3 w4.drew X1 X2 X3)).mono ?_)); rintro e wn ⟨rfl, gn⟩; have GN := Lib.hid (show w4.grownBy wn none by first | exact grownBy_trans (World.grownBy_alloc w4 _ none) (drew_grown gn) | exact drew_grown (grownBy_trans (World.grownBy_alloc _ _ none) gn)); have HZn := Lib.hid (hZ3.out.grown GN.out); obtain ⟨s0n, s1n, s2n⟩ := (hS3.out.grown GN.out).three; obtain ⟨⟨y0, y1, y2⟩, v0, v1, v2⟩ := dk_facts HZn.out; have HO := Lib.hid (HO3.out.kept GN.out); clear gn))
  all_goals go_wp2_with fail
  all_goals
    have P : LinePost (((N, s), xs), Y) w (.returned (.tuple #[.agg #[.int .i64 N, .string (bs s), .slice a' xs.length c'], .string Y])) (((wn.setCell ⟨w.heap.size + 1, 0, none⟩ (.int .i64 N)).setCell ⟨w.heap.size + 1, 1, none⟩ (.string (bs s))).setCell ⟨w.heap.size + 1, 2, none⟩ (.slice a' xs.length c')) :=
      ⟨a', c', rfl, HO.out.put3 ⟨_, HZn.out⟩ _ _ _, HB.out, put3_grown _ (grownBy_trans G3.out GN.out) (by omega) _ _ _⟩
    exact bodyPost_ret (v := .tuple #[.agg #[.int .i64 N, .string (bs s), .slice a' xs.length c'], .string Y]) (resDkB (b := .string Y) rfl _ rfl rfl (HZn.out.put3 (.int .i64 N) (.string (bs s)) (.slice a' xs.length c'))) rfl P

end Go.Proofs.YtlnffpofbfigaaaGreatDoor

/-
  The model's DeskLine at a line of one word that asks.
-/
namespace Go.Proofs.YtlnffpofbfigaaaGreatDoor
open Go.RowKit


set_option maxRecDepth 8000 in
set_option maxHeartbeats 2000000 in
theorem sdl_q5 (N : Nat) (s : List UInt8) (xs : List Ld) (a : Option Addr) (cap : Nat) (w : World) (hN : NowOk N s) (h : LdsAt w a xs) (h0 : a = none → cap = 0) (hd : dkB (((N : Int), s), xs) = true) :
    Calls Tryz.prog 21 #[.agg #[.int .i64 N, .string (bs s), .slice a xs.length cap], .string (bs [99, 104, 97, 105, 110, 115])] w (LinePost (((N, s), xs), ansQ N s 5) w) := by
  have g2 : w.grownBy ((w.alloc (.cells #[.int .i64 N, .string (bs s), .slice a xs.length cap] 32)).alloc (.cells #[.int .i64 0, .string ⟨#[]⟩, .slice none 0 0] 32)) none := grownBy_trans (World.grownBy_alloc w _ none) (World.grownBy_alloc _ _ none)
  have hZ := Lib.hid (CellsAt.second w (.cells #[.int .i64 N, .string (bs s), .slice a xs.length cap] 32) #[.int .i64 0, .string ⟨#[]⟩, .slice none 0 0] 32)
  have hD := Lib.hid (CellsAt.first w (.cells #[.int .i64 0, .string ⟨#[]⟩, .slice none 0 0] 32) #[.int .i64 N, .string (bs s), .slice a xs.length cap] 32)
  have ck := sdesk_is ((N, s), xs) a cap _ (h.grown g2)
  rw [hd] at ck
  unfold dkV at ck
  have cr := fun w => srd_v [99, 104, 97, 105, 110, 115] _ (rdV_none (by decide)) w (by decide)
  unfold ddV nilDd at cr
  rw [show bs ([] : List UInt8) = ⟨#[]⟩ from rfl] at cr
  have hx8 : xs.length ≤ 9 := by have := (dkB_of hd).2.2; change xs.length ≤ 8 at this; omega
  have cc : ∀ W, LdsAt W a xs → Calls Tryz.prog 60 #[.agg #[.int .i64 N, .string (bs s), .slice a xs.length cap]] W fun e w' => ∃ a' cap', e = .returned (.agg #[.int .i64 N, .string (bs s), .slice a' xs.length cap']) ∧ Own2 w' W.heap.size a' cap' xs ∧ W.grownBy w' none := fun W hW => scopy_any ((N, s), xs) a cap W hW h0 hx8
  have HX := Lib.hid (h.grown g2)
  have G2 := Lib.hid g2
  have HN := Lib.hid hN
  obtain ⟨U, hU⟩ : ∃ U, U = bs [99, 104, 97, 105, 110, 115] := ⟨_, rfl⟩
  rw [← hU] at cr ⊢
  have u0 : (U.toList == [115, 116, 101, 112, 115]) = false := by rw [hU, toL_bs]; decide
  have u1 : (U.toList == [116, 101, 120, 116]) = false := by rw [hU, toL_bs]; decide
  have u2 : (U.toList == [97, 108, 119, 97, 121, 115]) = false := by rw [hU, toL_bs]; decide
  have u3 : (U.toList == [108, 101, 97, 115, 116]) = false := by rw [hU, toL_bs]; decide
  have u4 : (U.toList == [97, 103, 97, 105, 110, 115, 116]) = false := by rw [hU, toL_bs]; decide
  have u5 : (U.toList == [99, 104, 97, 105, 110, 115]) = true := by rw [hU, toL_bs]; decide
  have hcx := chI_99 s
  have ca : ∀ W, Calls Tryz.prog 69 #[.string (bs s)] W fun e w' => ∃ a cap, e = .returned (.slice a (chI s).length cap) ∧ OwnI w' W.heap.size a cap (chI s) ∧ W.grownBy w' none := fun W => schains_any (bs s) W
  have cn : ∀ W ai ci, IntsAt W ai (chI s) → Calls Tryz.prog 68 #[.slice ai (chI s).length ci] W fun e w' => e = .returned (.string (ansQ N s 5)) ∧ W.grownBy w' none := fun W ai ci hi => srowt_any (chI s) hcx.1 (by have := hcx.2; omega) ai ci W hi
  have HXL : Hid ((chI s).length ≤ maxLen) := Lib.hid (by have := hcx.2; unfold maxLen; omega)
  clear hcx
  generalize chI s = B at ca cn HXL
  obtain ⟨Y, hY⟩ : ∃ Y, Y = ansQ N s 5 := ⟨_, rfl⟩
  rw [← hY] at cn ⊢
  clear hY
  clear h g2 hd hx8 hU
  go_enter Tryz.func21, Tryz.ntmps21
  go_wp2_with fail
  generalize (w.alloc (.cells #[.int .i64 N, .string (bs s), .slice a xs.length cap] 32)).alloc (.cells #[.int .i64 0, .string ⟨#[]⟩, .slice none 0 0] 32) = W at *
  refine ck.mono ?_
  rintro e w1 ⟨rfl, hg1⟩
  have G1 := Lib.hid (grownBy_trans G2.out hg1)
  have HX1 := Lib.hid (HX.out.grown hg1)
  have hD1 := Lib.hid (hD.out.grown hg1)
  have hZ1 := Lib.hid (hZ.out.grown hg1)
  obtain ⟨d0, d1, d2⟩ := hD1.out.three
  clear ck hg1
  go_wp2_with fail
  refine (cc _ HX1.out).mono ?_
  rintro e w2 ⟨a', c', rfl, ho, hg2⟩
  have gA := World.grownBy_alloc w2 (.cells #[.int .i64 N, .string (bs s), .slice a' xs.length c'] 32) none
  have g12 := grownBy_trans hg2 gA
  have G12 := Lib.hid (grownBy_trans G1.out g12)
  have hD2 := Lib.hid (hD1.out.grown g12)
  have hZ2 := Lib.hid (hZ1.out.grown g12)
  have hS2 := Lib.hid (CellsAt.new w2 #[.int .i64 N, .string (bs s), .slice a' xs.length c'] 32)
  have HO := Lib.hid ((ho.kept gA).l.mono G1.out.size)
  have HB := Lib.hid ho.bare
  have hb2 : Hid (w.heap.size + 2 ≤ w2.heap.size) := Lib.hid (by
    have := hZ1.out.lt; have := hg2.size; omega)
  clear cc ho hg2 gA g12 d0 d1 d2
  go_wp2_with fail
  generalize w2.alloc (.cells #[.int .i64 N, .string (bs s), .slice a' xs.length c'] 32) = W2 at *
  generalize w2.heap.size = sb at *
  refine (cr _).mono ?_
  rintro e w3 ⟨rfl, hg3⟩
  have gA3 := grownBy_trans hg3 (World.grownBy_alloc w3 (.cells #[.int .i64 0, .int .i64 0, .string ⟨#[]⟩] 40) none)
  have G3 := Lib.hid (grownBy_trans G12.out gA3)
  have hD3 := Lib.hid (hD2.out.grown gA3)
  have hZ3 := Lib.hid (hZ2.out.grown gA3)
  have hS3 := Lib.hid (hS2.out.grown gA3)
  have HO3 := Lib.hid (HO.out.kept gA3)
  obtain ⟨d0, d1, d2⟩ := hD3.out.three
  obtain ⟨s0, s1, s2⟩ := hS3.out.three
  obtain ⟨⟨y0, y1, y2⟩, v0, v1, v2⟩ := dk_facts hZ3.out
  clear cr hg3 gA3
  go_wp2_with fail
  generalize w3.alloc (.cells #[.int .i64 0, .int .i64 0, .string ⟨#[]⟩] 40) = W3 at *
  go_region_with (first | (go_at_call 69; (with_reducible refine (ca _).mono ?_); rintro e wa ⟨ai, ci, rfl, hi, ga⟩; have GA := Lib.hid (drew_grown ga); obtain ⟨s0a, s1a, s2a⟩ := (hS3.out.grown GA.out).three; have HI := Lib.hid (hi.at HXL.out); clear hi; clear ga) | (go_at_call 68; (with_reducible refine (cn _ _ _ HI.out).mono ?_); rintro e wn ⟨rfl, gn⟩; have GN := Lib.hid (grownBy_trans GA.out gn); have HZn := Lib.hid (hZ3.out.grown GN.out); obtain ⟨s0n, s1n, s2n⟩ := (hS3.out.grown GN.out).three; obtain ⟨⟨y0, y1, y2⟩, v0, v1, v2⟩ := dk_facts HZn.out; have HO := Lib.hid (HO3.out.kept GN.out); clear gn))
  all_goals go_wp2_with fail
  all_goals
    have P : LinePost (((N, s), xs), Y) w (.returned (.tuple #[.agg #[.int .i64 N, .string (bs s), .slice a' xs.length c'], .string Y])) (((wn.setCell ⟨w.heap.size + 1, 0, none⟩ (.int .i64 N)).setCell ⟨w.heap.size + 1, 1, none⟩ (.string (bs s))).setCell ⟨w.heap.size + 1, 2, none⟩ (.slice a' xs.length c')) :=
      ⟨a', c', rfl, HO.out.put3 ⟨_, HZn.out⟩ _ _ _, HB.out, put3_grown _ (grownBy_trans G3.out GN.out) (by omega) _ _ _⟩
    exact bodyPost_ret (v := .tuple #[.agg #[.int .i64 N, .string (bs s), .slice a' xs.length c'], .string Y]) (resDkB (b := .string Y) rfl _ rfl rfl (HZn.out.put3 (.int .i64 N) (.string (bs s)) (.slice a' xs.length c'))) rfl P

set_option maxRecDepth 8000 in
set_option maxHeartbeats 2000000 in
theorem sdl_q6 (N : Nat) (s : List UInt8) (xs : List Ld) (a : Option Addr) (cap : Nat) (w : World) (hN : NowOk N s) (h : LdsAt w a xs) (h0 : a = none → cap = 0) (hd : dkB (((N : Int), s), xs) = true) :
    Calls Tryz.prog 21 #[.agg #[.int .i64 N, .string (bs s), .slice a xs.length cap], .string (bs [108, 101, 116, 116, 101, 114, 115])] w (LinePost (((N, s), xs), ansQ N s 6) w) := by
  have g2 : w.grownBy ((w.alloc (.cells #[.int .i64 N, .string (bs s), .slice a xs.length cap] 32)).alloc (.cells #[.int .i64 0, .string ⟨#[]⟩, .slice none 0 0] 32)) none := grownBy_trans (World.grownBy_alloc w _ none) (World.grownBy_alloc _ _ none)
  have hZ := Lib.hid (CellsAt.second w (.cells #[.int .i64 N, .string (bs s), .slice a xs.length cap] 32) #[.int .i64 0, .string ⟨#[]⟩, .slice none 0 0] 32)
  have hD := Lib.hid (CellsAt.first w (.cells #[.int .i64 0, .string ⟨#[]⟩, .slice none 0 0] 32) #[.int .i64 N, .string (bs s), .slice a xs.length cap] 32)
  have ck := sdesk_is ((N, s), xs) a cap _ (h.grown g2)
  rw [hd] at ck
  unfold dkV at ck
  have cr := fun w => srd_v [108, 101, 116, 116, 101, 114, 115] _ (rdV_none (by decide)) w (by decide)
  unfold ddV nilDd at cr
  rw [show bs ([] : List UInt8) = ⟨#[]⟩ from rfl] at cr
  have hx8 : xs.length ≤ 9 := by have := (dkB_of hd).2.2; change xs.length ≤ 8 at this; omega
  have cc : ∀ W, LdsAt W a xs → Calls Tryz.prog 60 #[.agg #[.int .i64 N, .string (bs s), .slice a xs.length cap]] W fun e w' => ∃ a' cap', e = .returned (.agg #[.int .i64 N, .string (bs s), .slice a' xs.length cap']) ∧ Own2 w' W.heap.size a' cap' xs ∧ W.grownBy w' none := fun W hW => scopy_any ((N, s), xs) a cap W hW h0 hx8
  have HX := Lib.hid (h.grown g2)
  have G2 := Lib.hid g2
  have HN := Lib.hid hN
  obtain ⟨U, hU⟩ : ∃ U, U = bs [108, 101, 116, 116, 101, 114, 115] := ⟨_, rfl⟩
  rw [← hU] at cr ⊢
  have u0 : (U.toList == [115, 116, 101, 112, 115]) = false := by rw [hU, toL_bs]; decide
  have u1 : (U.toList == [116, 101, 120, 116]) = false := by rw [hU, toL_bs]; decide
  have u2 : (U.toList == [97, 108, 119, 97, 121, 115]) = false := by rw [hU, toL_bs]; decide
  have u3 : (U.toList == [108, 101, 97, 115, 116]) = false := by rw [hU, toL_bs]; decide
  have u4 : (U.toList == [97, 103, 97, 105, 110, 115, 116]) = false := by rw [hU, toL_bs]; decide
  have u5 : (U.toList == [99, 104, 97, 105, 110, 115]) = false := by rw [hU, toL_bs]; decide
  have u6 : (U.toList == [108, 101, 116, 116, 101, 114, 115]) = true := by rw [hU, toL_bs]; decide
  obtain ⟨K, hK, hK9⟩ := lsI_99 hN
  have ca : ∀ W, Calls Tryz.prog 70 #[.string (bs s)] W fun e w' => e = .returned (.int .i64 (lsI s)) ∧ W = w' := fun W => sletters_any (bs s) W
  have cn := fun W => num99_any K hK9 W
  rw [show bs (decL K) = ansQ N s 6 from by show _ = bs (decL (lsI s).toNat); rw [hK]; rfl] at cn
  rw [hK] at ca
  clear hK9
  obtain ⟨Y, hY⟩ : ∃ Y, Y = ansQ N s 6 := ⟨_, rfl⟩
  rw [← hY] at cn ⊢
  clear hY
  clear h g2 hd hx8 hU
  go_enter Tryz.func21, Tryz.ntmps21
  go_wp2_with fail
  generalize (w.alloc (.cells #[.int .i64 N, .string (bs s), .slice a xs.length cap] 32)).alloc (.cells #[.int .i64 0, .string ⟨#[]⟩, .slice none 0 0] 32) = W at *
  refine ck.mono ?_
  rintro e w1 ⟨rfl, hg1⟩
  have G1 := Lib.hid (grownBy_trans G2.out hg1)
  have HX1 := Lib.hid (HX.out.grown hg1)
  have hD1 := Lib.hid (hD.out.grown hg1)
  have hZ1 := Lib.hid (hZ.out.grown hg1)
  obtain ⟨d0, d1, d2⟩ := hD1.out.three
  clear ck hg1
  go_wp2_with fail
  refine (cc _ HX1.out).mono ?_
  rintro e w2 ⟨a', c', rfl, ho, hg2⟩
  have gA := World.grownBy_alloc w2 (.cells #[.int .i64 N, .string (bs s), .slice a' xs.length c'] 32) none
  have g12 := grownBy_trans hg2 gA
  have G12 := Lib.hid (grownBy_trans G1.out g12)
  have hD2 := Lib.hid (hD1.out.grown g12)
  have hZ2 := Lib.hid (hZ1.out.grown g12)
  have hS2 := Lib.hid (CellsAt.new w2 #[.int .i64 N, .string (bs s), .slice a' xs.length c'] 32)
  have HO := Lib.hid ((ho.kept gA).l.mono G1.out.size)
  have HB := Lib.hid ho.bare
  have hb2 : Hid (w.heap.size + 2 ≤ w2.heap.size) := Lib.hid (by
    have := hZ1.out.lt; have := hg2.size; omega)
  clear cc ho hg2 gA g12 d0 d1 d2
  go_wp2_with fail
  generalize w2.alloc (.cells #[.int .i64 N, .string (bs s), .slice a' xs.length c'] 32) = W2 at *
  generalize w2.heap.size = sb at *
  refine (cr _).mono ?_
  rintro e w3 ⟨rfl, hg3⟩
  have gA3 := grownBy_trans hg3 (World.grownBy_alloc w3 (.cells #[.int .i64 0, .int .i64 0, .string ⟨#[]⟩] 40) none)
  have G3 := Lib.hid (grownBy_trans G12.out gA3)
  have hD3 := Lib.hid (hD2.out.grown gA3)
  have hZ3 := Lib.hid (hZ2.out.grown gA3)
  have hS3 := Lib.hid (hS2.out.grown gA3)
  have HO3 := Lib.hid (HO.out.kept gA3)
  obtain ⟨d0, d1, d2⟩ := hD3.out.three
  obtain ⟨s0, s1, s2⟩ := hS3.out.three
  obtain ⟨⟨y0, y1, y2⟩, v0, v1, v2⟩ := dk_facts hZ3.out
  clear cr hg3 gA3
  go_wp2_with fail
  generalize w3.alloc (.cells #[.int .i64 0, .int .i64 0, .string ⟨#[]⟩] 40) = W3 at *
  go_region_with (first | (go_at_call 70; (with_reducible refine (ca _).mono ?_); rintro e _ ⟨rfl, rfl⟩) | (go_at_call 62; (with_reducible refine (cn _).mono ?_); rintro e wn ⟨rfl, gn⟩; have GN := Lib.hid (drew_grown gn); have HZn := Lib.hid (hZ3.out.grown GN.out); obtain ⟨s0n, s1n, s2n⟩ := (hS3.out.grown GN.out).three; obtain ⟨⟨y0, y1, y2⟩, v0, v1, v2⟩ := dk_facts HZn.out; have HO := Lib.hid (HO3.out.kept GN.out); clear gn))
  all_goals go_wp2_with fail
  all_goals
    have P : LinePost (((N, s), xs), Y) w (.returned (.tuple #[.agg #[.int .i64 N, .string (bs s), .slice a' xs.length c'], .string Y])) (((wn.setCell ⟨w.heap.size + 1, 0, none⟩ (.int .i64 N)).setCell ⟨w.heap.size + 1, 1, none⟩ (.string (bs s))).setCell ⟨w.heap.size + 1, 2, none⟩ (.slice a' xs.length c')) :=
      ⟨a', c', rfl, HO.out.put3 ⟨_, HZn.out⟩ _ _ _, HB.out, put3_grown _ (grownBy_trans G3.out GN.out) (by omega) _ _ _⟩
    exact bodyPost_ret (v := .tuple #[.agg #[.int .i64 N, .string (bs s), .slice a' xs.length c'], .string Y]) (resDkB (b := .string Y) rfl _ rfl rfl (HZn.out.put3 (.int .i64 N) (.string (bs s)) (.slice a' xs.length c'))) rfl P

set_option maxRecDepth 8000 in
set_option maxHeartbeats 2000000 in
theorem sdl_q7 (N : Nat) (s : List UInt8) (xs : List Ld) (a : Option Addr) (cap : Nat) (w : World) (hN : NowOk N s) (h : LdsAt w a xs) (h0 : a = none → cap = 0) (hd : dkB (((N : Int), s), xs) = true) :
    Calls Tryz.prog 21 #[.agg #[.int .i64 N, .string (bs s), .slice a xs.length cap], .string (bs [109, 111, 118, 101, 115])] w (LinePost (((N, s), xs), ansQ N s 7) w) := by
  have g2 : w.grownBy ((w.alloc (.cells #[.int .i64 N, .string (bs s), .slice a xs.length cap] 32)).alloc (.cells #[.int .i64 0, .string ⟨#[]⟩, .slice none 0 0] 32)) none := grownBy_trans (World.grownBy_alloc w _ none) (World.grownBy_alloc _ _ none)
  have hZ := Lib.hid (CellsAt.second w (.cells #[.int .i64 N, .string (bs s), .slice a xs.length cap] 32) #[.int .i64 0, .string ⟨#[]⟩, .slice none 0 0] 32)
  have hD := Lib.hid (CellsAt.first w (.cells #[.int .i64 0, .string ⟨#[]⟩, .slice none 0 0] 32) #[.int .i64 N, .string (bs s), .slice a xs.length cap] 32)
  have ck := sdesk_is ((N, s), xs) a cap _ (h.grown g2)
  rw [hd] at ck
  unfold dkV at ck
  have cr := fun w => srd_v [109, 111, 118, 101, 115] _ (rdV_none (by decide)) w (by decide)
  unfold ddV nilDd at cr
  rw [show bs ([] : List UInt8) = ⟨#[]⟩ from rfl] at cr
  have hx8 : xs.length ≤ 9 := by have := (dkB_of hd).2.2; change xs.length ≤ 8 at this; omega
  have cc : ∀ W, LdsAt W a xs → Calls Tryz.prog 60 #[.agg #[.int .i64 N, .string (bs s), .slice a xs.length cap]] W fun e w' => ∃ a' cap', e = .returned (.agg #[.int .i64 N, .string (bs s), .slice a' xs.length cap']) ∧ Own2 w' W.heap.size a' cap' xs ∧ W.grownBy w' none := fun W hW => scopy_any ((N, s), xs) a cap W hW h0 hx8
  have HX := Lib.hid (h.grown g2)
  have G2 := Lib.hid g2
  have HN := Lib.hid hN
  obtain ⟨U, hU⟩ : ∃ U, U = bs [109, 111, 118, 101, 115] := ⟨_, rfl⟩
  rw [← hU] at cr ⊢
  have u0 : (U.toList == [115, 116, 101, 112, 115]) = false := by rw [hU, toL_bs]; decide
  have u1 : (U.toList == [116, 101, 120, 116]) = false := by rw [hU, toL_bs]; decide
  have u2 : (U.toList == [97, 108, 119, 97, 121, 115]) = false := by rw [hU, toL_bs]; decide
  have u3 : (U.toList == [108, 101, 97, 115, 116]) = false := by rw [hU, toL_bs]; decide
  have u4 : (U.toList == [97, 103, 97, 105, 110, 115, 116]) = false := by rw [hU, toL_bs]; decide
  have u5 : (U.toList == [99, 104, 97, 105, 110, 115]) = false := by rw [hU, toL_bs]; decide
  have u6 : (U.toList == [108, 101, 116, 116, 101, 114, 115]) = false := by rw [hU, toL_bs]; decide
  have u7 : (U.toList == [109, 111, 118, 101, 115]) = true := by rw [hU, toL_bs]; decide
  obtain ⟨K, hK, hK9⟩ := movI_99 hN
  have ca : ∀ W, Calls Tryz.prog 71 #[.int .i64 N, .string (bs s)] W fun e w' => e = .returned (.int .i64 (movI N s)) ∧ W.grownBy w' none := fun W => smov_any N (bs s) W
  have cn := fun W => num99_any K hK9 W
  rw [show bs (decL K) = ansQ N s 7 from by show _ = bs (decL (movI N s).toNat); rw [hK]; rfl] at cn
  rw [hK] at ca
  clear hK9
  obtain ⟨Y, hY⟩ : ∃ Y, Y = ansQ N s 7 := ⟨_, rfl⟩
  rw [← hY] at cn ⊢
  clear hY
  clear h g2 hd hx8 hU
  go_enter Tryz.func21, Tryz.ntmps21
  go_wp2_with fail
  generalize (w.alloc (.cells #[.int .i64 N, .string (bs s), .slice a xs.length cap] 32)).alloc (.cells #[.int .i64 0, .string ⟨#[]⟩, .slice none 0 0] 32) = W at *
  refine ck.mono ?_
  rintro e w1 ⟨rfl, hg1⟩
  have G1 := Lib.hid (grownBy_trans G2.out hg1)
  have HX1 := Lib.hid (HX.out.grown hg1)
  have hD1 := Lib.hid (hD.out.grown hg1)
  have hZ1 := Lib.hid (hZ.out.grown hg1)
  obtain ⟨d0, d1, d2⟩ := hD1.out.three
  clear ck hg1
  go_wp2_with fail
  refine (cc _ HX1.out).mono ?_
  rintro e w2 ⟨a', c', rfl, ho, hg2⟩
  have gA := World.grownBy_alloc w2 (.cells #[.int .i64 N, .string (bs s), .slice a' xs.length c'] 32) none
  have g12 := grownBy_trans hg2 gA
  have G12 := Lib.hid (grownBy_trans G1.out g12)
  have hD2 := Lib.hid (hD1.out.grown g12)
  have hZ2 := Lib.hid (hZ1.out.grown g12)
  have hS2 := Lib.hid (CellsAt.new w2 #[.int .i64 N, .string (bs s), .slice a' xs.length c'] 32)
  have HO := Lib.hid ((ho.kept gA).l.mono G1.out.size)
  have HB := Lib.hid ho.bare
  have hb2 : Hid (w.heap.size + 2 ≤ w2.heap.size) := Lib.hid (by
    have := hZ1.out.lt; have := hg2.size; omega)
  clear cc ho hg2 gA g12 d0 d1 d2
  go_wp2_with fail
  generalize w2.alloc (.cells #[.int .i64 N, .string (bs s), .slice a' xs.length c'] 32) = W2 at *
  generalize w2.heap.size = sb at *
  refine (cr _).mono ?_
  rintro e w3 ⟨rfl, hg3⟩
  have gA3 := grownBy_trans hg3 (World.grownBy_alloc w3 (.cells #[.int .i64 0, .int .i64 0, .string ⟨#[]⟩] 40) none)
  have G3 := Lib.hid (grownBy_trans G12.out gA3)
  have hD3 := Lib.hid (hD2.out.grown gA3)
  have hZ3 := Lib.hid (hZ2.out.grown gA3)
  have hS3 := Lib.hid (hS2.out.grown gA3)
  have HO3 := Lib.hid (HO.out.kept gA3)
  obtain ⟨d0, d1, d2⟩ := hD3.out.three
  obtain ⟨s0, s1, s2⟩ := hS3.out.three
  obtain ⟨⟨y0, y1, y2⟩, v0, v1, v2⟩ := dk_facts hZ3.out
  clear cr hg3 gA3
  go_wp2_with fail
  generalize w3.alloc (.cells #[.int .i64 0, .int .i64 0, .string ⟨#[]⟩] 40) = W3 at *
  go_region_with (first | (go_at_call 71; (with_reducible refine (ca _).mono ?_); rintro e wa ⟨rfl, ga⟩; have GA := Lib.hid (drew_grown ga); obtain ⟨s0a, s1a, s2a⟩ := (hS3.out.grown GA.out).three; clear ga) | (go_at_call 62; (with_reducible refine (cn _).mono ?_); rintro e wn ⟨rfl, gn⟩; have GN := Lib.hid (grownBy_trans GA.out gn); have HZn := Lib.hid (hZ3.out.grown GN.out); obtain ⟨s0n, s1n, s2n⟩ := (hS3.out.grown GN.out).three; obtain ⟨⟨y0, y1, y2⟩, v0, v1, v2⟩ := dk_facts HZn.out; have HO := Lib.hid (HO3.out.kept GN.out); clear gn))
  all_goals go_wp2_with fail
  all_goals
    have P : LinePost (((N, s), xs), Y) w (.returned (.tuple #[.agg #[.int .i64 N, .string (bs s), .slice a' xs.length c'], .string Y])) (((wn.setCell ⟨w.heap.size + 1, 0, none⟩ (.int .i64 N)).setCell ⟨w.heap.size + 1, 1, none⟩ (.string (bs s))).setCell ⟨w.heap.size + 1, 2, none⟩ (.slice a' xs.length c')) :=
      ⟨a', c', rfl, HO.out.put3 ⟨_, HZn.out⟩ _ _ _, HB.out, put3_grown _ (grownBy_trans G3.out GN.out) (by omega) _ _ _⟩
    exact bodyPost_ret (v := .tuple #[.agg #[.int .i64 N, .string (bs s), .slice a' xs.length c'], .string Y]) (resDkB (b := .string Y) rfl _ rfl rfl (HZn.out.put3 (.int .i64 N) (.string (bs s)) (.slice a' xs.length c'))) rfl P

set_option maxRecDepth 8000 in
set_option maxHeartbeats 2000000 in
theorem sdl_q8 (N : Nat) (s : List UInt8) (xs : List Ld) (a : Option Addr) (cap : Nat) (w : World) (hN : NowOk N s) (h : LdsAt w a xs) (h0 : a = none → cap = 0) (hd : dkB (((N : Int), s), xs) = true) :
    Calls Tryz.prog 21 #[.agg #[.int .i64 N, .string (bs s), .slice a xs.length cap], .string (bs [114, 111, 119])] w (LinePost (((N, s), xs), ansQ N s 8) w) := by
  have g2 : w.grownBy ((w.alloc (.cells #[.int .i64 N, .string (bs s), .slice a xs.length cap] 32)).alloc (.cells #[.int .i64 0, .string ⟨#[]⟩, .slice none 0 0] 32)) none := grownBy_trans (World.grownBy_alloc w _ none) (World.grownBy_alloc _ _ none)
  have hZ := Lib.hid (CellsAt.second w (.cells #[.int .i64 N, .string (bs s), .slice a xs.length cap] 32) #[.int .i64 0, .string ⟨#[]⟩, .slice none 0 0] 32)
  have hD := Lib.hid (CellsAt.first w (.cells #[.int .i64 0, .string ⟨#[]⟩, .slice none 0 0] 32) #[.int .i64 N, .string (bs s), .slice a xs.length cap] 32)
  have ck := sdesk_is ((N, s), xs) a cap _ (h.grown g2)
  rw [hd] at ck
  unfold dkV at ck
  have cr := fun w => srd_v [114, 111, 119] _ (rdV_none (by decide)) w (by decide)
  unfold ddV nilDd at cr
  rw [show bs ([] : List UInt8) = ⟨#[]⟩ from rfl] at cr
  have hx8 : xs.length ≤ 9 := by have := (dkB_of hd).2.2; change xs.length ≤ 8 at this; omega
  have cc : ∀ W, LdsAt W a xs → Calls Tryz.prog 60 #[.agg #[.int .i64 N, .string (bs s), .slice a xs.length cap]] W fun e w' => ∃ a' cap', e = .returned (.agg #[.int .i64 N, .string (bs s), .slice a' xs.length cap']) ∧ Own2 w' W.heap.size a' cap' xs ∧ W.grownBy w' none := fun W hW => scopy_any ((N, s), xs) a cap W hW h0 hx8
  have HX := Lib.hid (h.grown g2)
  have G2 := Lib.hid g2
  have HN := Lib.hid hN
  obtain ⟨U, hU⟩ : ∃ U, U = bs [114, 111, 119] := ⟨_, rfl⟩
  rw [← hU] at cr ⊢
  have u0 : (U.toList == [115, 116, 101, 112, 115]) = false := by rw [hU, toL_bs]; decide
  have u1 : (U.toList == [116, 101, 120, 116]) = false := by rw [hU, toL_bs]; decide
  have u2 : (U.toList == [97, 108, 119, 97, 121, 115]) = false := by rw [hU, toL_bs]; decide
  have u3 : (U.toList == [108, 101, 97, 115, 116]) = false := by rw [hU, toL_bs]; decide
  have u4 : (U.toList == [97, 103, 97, 105, 110, 115, 116]) = false := by rw [hU, toL_bs]; decide
  have u5 : (U.toList == [99, 104, 97, 105, 110, 115]) = false := by rw [hU, toL_bs]; decide
  have u6 : (U.toList == [108, 101, 116, 116, 101, 114, 115]) = false := by rw [hU, toL_bs]; decide
  have u7 : (U.toList == [109, 111, 118, 101, 115]) = false := by rw [hU, toL_bs]; decide
  have u8 : (U.toList == [114, 111, 119]) = true := by rw [hU, toL_bs]; decide
  have hcx := saidL_99 hN
  have ca : ∀ W, Calls Tryz.prog 72 #[.int .i64 N, .string (bs s)] W fun e w' => ∃ a cap, e = .returned (.slice a (saidL N s).length cap) ∧ OwnI w' W.heap.size a cap (saidL N s) ∧ W.grownBy w' none := fun W => ssaid_any N (bs s) W
  have cn : ∀ W ai ci, IntsAt W ai (saidL N s) → Calls Tryz.prog 68 #[.slice ai (saidL N s).length ci] W fun e w' => e = .returned (.string (ansQ N s 8)) ∧ W.grownBy w' none := fun W ai ci hi => srowt_any (saidL N s) hcx.1 (by have := hcx.2; omega) ai ci W hi
  have HXL : Hid ((saidL N s).length ≤ maxLen) := Lib.hid (by have := hcx.2; unfold maxLen; omega)
  clear hcx
  generalize saidL N s = B at ca cn HXL
  obtain ⟨Y, hY⟩ : ∃ Y, Y = ansQ N s 8 := ⟨_, rfl⟩
  rw [← hY] at cn ⊢
  clear hY
  clear h g2 hd hx8 hU
  go_enter Tryz.func21, Tryz.ntmps21
  go_wp2_with fail
  generalize (w.alloc (.cells #[.int .i64 N, .string (bs s), .slice a xs.length cap] 32)).alloc (.cells #[.int .i64 0, .string ⟨#[]⟩, .slice none 0 0] 32) = W at *
  refine ck.mono ?_
  rintro e w1 ⟨rfl, hg1⟩
  have G1 := Lib.hid (grownBy_trans G2.out hg1)
  have HX1 := Lib.hid (HX.out.grown hg1)
  have hD1 := Lib.hid (hD.out.grown hg1)
  have hZ1 := Lib.hid (hZ.out.grown hg1)
  obtain ⟨d0, d1, d2⟩ := hD1.out.three
  clear ck hg1
  go_wp2_with fail
  refine (cc _ HX1.out).mono ?_
  rintro e w2 ⟨a', c', rfl, ho, hg2⟩
  have gA := World.grownBy_alloc w2 (.cells #[.int .i64 N, .string (bs s), .slice a' xs.length c'] 32) none
  have g12 := grownBy_trans hg2 gA
  have G12 := Lib.hid (grownBy_trans G1.out g12)
  have hD2 := Lib.hid (hD1.out.grown g12)
  have hZ2 := Lib.hid (hZ1.out.grown g12)
  have hS2 := Lib.hid (CellsAt.new w2 #[.int .i64 N, .string (bs s), .slice a' xs.length c'] 32)
  have HO := Lib.hid ((ho.kept gA).l.mono G1.out.size)
  have HB := Lib.hid ho.bare
  have hb2 : Hid (w.heap.size + 2 ≤ w2.heap.size) := Lib.hid (by
    have := hZ1.out.lt; have := hg2.size; omega)
  clear cc ho hg2 gA g12 d0 d1 d2
  go_wp2_with fail
  generalize w2.alloc (.cells #[.int .i64 N, .string (bs s), .slice a' xs.length c'] 32) = W2 at *
  generalize w2.heap.size = sb at *
  refine (cr _).mono ?_
  rintro e w3 ⟨rfl, hg3⟩
  have gA3 := grownBy_trans hg3 (World.grownBy_alloc w3 (.cells #[.int .i64 0, .int .i64 0, .string ⟨#[]⟩] 40) none)
  have G3 := Lib.hid (grownBy_trans G12.out gA3)
  have hD3 := Lib.hid (hD2.out.grown gA3)
  have hZ3 := Lib.hid (hZ2.out.grown gA3)
  have hS3 := Lib.hid (hS2.out.grown gA3)
  have HO3 := Lib.hid (HO.out.kept gA3)
  obtain ⟨d0, d1, d2⟩ := hD3.out.three
  obtain ⟨s0, s1, s2⟩ := hS3.out.three
  obtain ⟨⟨y0, y1, y2⟩, v0, v1, v2⟩ := dk_facts hZ3.out
  clear cr hg3 gA3
  go_wp2_with fail
  generalize w3.alloc (.cells #[.int .i64 0, .int .i64 0, .string ⟨#[]⟩] 40) = W3 at *
  go_region_with (first | (go_at_call 72; (with_reducible refine (ca _).mono ?_); rintro e wa ⟨ai, ci, rfl, hi, ga⟩; have GA := Lib.hid (drew_grown ga); obtain ⟨s0a, s1a, s2a⟩ := (hS3.out.grown GA.out).three; have HI := Lib.hid (hi.at HXL.out); clear hi; clear ga) | (go_at_call 68; (with_reducible refine (cn _ _ _ HI.out).mono ?_); rintro e wn ⟨rfl, gn⟩; have GN := Lib.hid (grownBy_trans GA.out gn); have HZn := Lib.hid (hZ3.out.grown GN.out); obtain ⟨s0n, s1n, s2n⟩ := (hS3.out.grown GN.out).three; obtain ⟨⟨y0, y1, y2⟩, v0, v1, v2⟩ := dk_facts HZn.out; have HO := Lib.hid (HO3.out.kept GN.out); clear gn))
  all_goals go_wp2_with fail
  all_goals
    have P : LinePost (((N, s), xs), Y) w (.returned (.tuple #[.agg #[.int .i64 N, .string (bs s), .slice a' xs.length c'], .string Y])) (((wn.setCell ⟨w.heap.size + 1, 0, none⟩ (.int .i64 N)).setCell ⟨w.heap.size + 1, 1, none⟩ (.string (bs s))).setCell ⟨w.heap.size + 1, 2, none⟩ (.slice a' xs.length c')) :=
      ⟨a', c', rfl, HO.out.put3 ⟨_, HZn.out⟩ _ _ _, HB.out, put3_grown _ (grownBy_trans G3.out GN.out) (by omega) _ _ _⟩
    exact bodyPost_ret (v := .tuple #[.agg #[.int .i64 N, .string (bs s), .slice a' xs.length c'], .string Y]) (resDkB (b := .string Y) rfl _ rfl rfl (HZn.out.put3 (.int .i64 N) (.string (bs s)) (.slice a' xs.length c'))) rfl P

end Go.Proofs.YtlnffpofbfigaaaGreatDoor

/-
  The model's PremisesOk, l7All, CountTrue, FollowsFrom. No condition.
-/
namespace Go.Proofs.YtlnffpofbfigaaaGreatDoor
open Go.RowKit

theorem premB_bad {ss : List ByteArray} {k : Nat} (hk : k < ss.length) (h : isF (bl (ss.getD k nilS)) = false) : premB (ss.map bl) = false := premB_f (prOf_at_none hk (isF_not h))
theorem premB_all {ss : List ByteArray} (h : ∀ k, k < ss.length → isF (bl (ss.getD k nilS)) = true) : premB (ss.map bl) = decide ((ss.length : Int) ≤ 3) := by
  by_cases hl : ss.length ≤ 3
  · obtain ⟨ts, ht⟩ := prOf_at_some hl fun k hk => isF_of (h k hk)
    rw [premB_t ht]
    exact (decide_eq_true (by omega)).symm
  · rw [premB_f (prOf_l (by simpa using hl))]
    exact (decide_eq_false (by omega)).symm

def SpRel (ss : List ByteArray) (w : World) (i : Value) (wr : World) : Prop := ∃ k : Nat, k ≤ ss.length ∧ i = .int .i64 k ∧ (∀ j, j < k → isF (bl (ss.getD j nilS)) = true) ∧ w = wr

set_option maxHeartbeats 1000000 in
theorem sprem_any (a : Option Addr) (cap : Nat) (ss : List ByteArray) (w : World) (h : StrsAt w a ss) :
    Calls Tryz.prog 113 #[.slice a ss.length cap] w fun e w' => e = .returned (.bool (premB (ss.map bl))) ∧ w = w' := by
  have hm := h.1
  unfold maxLen at hm
  have Hh := Lib.hid h
  clear h
  go_enter Tryz.func113, Tryz.ntmps113
  go_wp2
  go_loopw [3] (fun i wr => SpRel ss w i wr) (fun i _ => ss.length - (intOf i).toNat)
  case atStart => exact ⟨0, by omega, rfl, fun j hj => absurd hj (by omega), rfl⟩
  case round =>
    obtain ⟨k, hk, rfl, hT, rfl⟩ := hrel
    have HT := Lib.hid hT
    clear hT
    by_cases hlt : k < ss.length
    · rcases Hh.out.2 with h0 | ⟨b, off, rfl, hb, hc⟩
      · rw [h0] at hlt; simp at hlt
      have hck := hc k hlt
      have cf := sform_any (ss.getD k nilS) w
      clear hc hb
      cases hv : isF (bl (ss.getD k nilS))
      · have e := Lib.hid (premB_bad hlt hv)
        rw [hv] at cf
        clear hv
        generalize ss.getD k nilS = s at *
        go_wp2_with (go_at_call 74; refine cf.mono ?_; rintro e w1 ⟨rfl, rfl⟩)
        go_ret
        exact ⟨by rw [e.out]; rfl, rfl⟩
      · have hn : Hid (∀ j, j < k + 1 → isF (bl (ss.getD j nilS)) = true) := fun j hj => by
          by_cases e : j = k
          · rw [e]; exact hv
          · exact HT.out j (by omega)
        rw [hv] at cf
        clear hv
        generalize ss.getD k nilS = s at *
        go_wp2_with (go_at_call 74; refine cf.mono ?_; rintro e w1 ⟨rfl, rfl⟩)
        go_roundw
        case rel => exact ⟨k + 1, by omega, by go_num, hn.out, rfl⟩
        case measure => simp [intOf]; omega
    · obtain rfl : k = ss.length := by omega
      have e := Lib.hid (premB_all HT.out)
      go_wp2
      go_ret
      exact ⟨by rw [e.out]; rfl, rfl⟩

theorem truK_lt {N : Nat} (hN : 1 ≤ N ∧ N ≤ 6) {t : Tr} {k : Nat} (h : truK N t k = false) : atK N t k < N := by
  unfold truK at h
  have h1 := atK_le hN t k
  have h2 := beq_eq_false_iff_ne.1 h
  omega
theorem truK_eq {N : Nat} {t : Tr} {k : Nat} (h : truK N t k = true) : atK N t k = N := by
  unfold truK at h
  exact eq_of_beq h

def SpaRel (N x : Nat) (ts : List Tr) (L : Nat) (w : World) (i : Value) (wr : World) : Prop := ∃ k : Nat, k ≤ L ∧ i = .int .i64 k ∧ (∀ j t, j < k → ts[j]? = some t → truK N t x = true) ∧ w = wr

set_option maxHeartbeats 1000000 in
theorem sall_any (N : Nat) (hN : 1 ≤ N ∧ N ≤ 6) (x : Nat) (a : Option Addr) (cap : Nat) (ss : List ByteArray) (ts : List Tr) (ho : prOf (ss.map bl) = some ts) (w : World) (h : StrsAt w a ss) :
    Calls Tryz.prog 114 #[.int .i64 N, .slice a ss.length cap, .int .i64 (tA N x), .int .i64 (tB N x), .int .i64 (tC N x)] w fun e w' => e = .returned (.bool (allK N ts x)) ∧ w = w' := by
  obtain ⟨hl3, hfs⟩ := prOf_of ho
  have hl : ts.length = ss.length := by have := fsOf_len hfs; simpa using this
  have hss : ss.length ≤ 3 := by simpa using hl3
  have Hh := Lib.hid h
  have Hf := Lib.hid hfs
  have Hl := Lib.hid hl
  clear h ho hfs hl3 hl
  go_enter Tryz.func114, Tryz.ntmps114
  go_wp2
  go_loopw [11] (fun i wr => SpaRel N x ts ss.length w i wr) (fun i _ => ss.length - (intOf i).toNat)
  case atStart => exact ⟨0, by omega, rfl, fun j t hj => absurd hj (by omega), rfl⟩
  case round =>
    obtain ⟨k, hk, rfl, hT, rfl⟩ := hrel
    have HT := Lib.hid hT
    clear hT
    by_cases hlt : k < ss.length
    · rcases Hh.out.2 with h0 | ⟨b, off, rfl, hb, hc⟩
      · have h00 : ss.length = 0 := by rw [h0]; rfl
        omega
      have hck := hc k (by omega)
      obtain ⟨t, ht, hf⟩ := fsOf_at Hf.out k (by simp; omega)
      rw [show (ss.map bl).getD k [] = bl (ss.getD k nilS) by simp [List.getD_eq_getElem?_getD, show k < ss.length by omega]] at hf
      have et := tb_of hf
      have htl := (fOf_some hf).2
      rw [et] at hck
      have cv : ∀ w : World, Calls Tryz.prog 111 #[.int .i64 N, .string (tb t), .int .i64 (tA N x), .int .i64 (tB N x), .int .i64 (tC N x)] w fun e w' => e = .returned (.int .i64 (atK N t x)) ∧ w = w' := fun w => sv_all (tri_ok hN x) t (tb t) w rfl (by rw [tb_size]; omega)
      have Ht := Lib.hid ht
      clear hc hb hf et ht htl
      cases hv : truK N t x
      · have e := Lib.hid (allK_no Ht.out hv)
        have hat := truK_lt hN hv
        clear hv
        generalize atK N t x = v at *
        go_wp2_with (go_at_call 111; refine (cv _).mono ?_; rintro e w1 ⟨rfl, rfl⟩)
        go_ret
        exact ⟨by rw [e.out]; rfl, rfl⟩
      · have hn : Hid (∀ j u, j < k + 1 → ts[j]? = some u → truK N u x = true) := fun j u hj hu => by
          by_cases e : j = k
          · subst e; rw [Ht.out] at hu; cases hu; exact hv
          · exact HT.out j u (by omega) hu
        rw [truK_eq hv] at cv
        clear hv
        go_wp2_with (go_at_call 111; refine (cv _).mono ?_; rintro e w1 ⟨rfl, rfl⟩)
        go_roundw
        case rel => exact ⟨k + 1, by omega, by go_num, hn.out, rfl⟩
        case measure => simp [intOf]; omega
    · obtain rfl : k = ss.length := by omega
      have e : Hid (allK N ts x = true) := allK_yes fun j t hj => HT.out j t (by rw [← Hl.out]; exact hj)
      go_wp2
      go_ret
      exact ⟨by rw [e.out]; rfl, rfl⟩

end Go.Proofs.YtlnffpofbfigaaaGreatDoor

/-
  The model's CountTrue and FollowsFrom. No condition.
-/
namespace Go.Proofs.YtlnffpofbfigaaaGreatDoor
open Go.RowKit

def ScRel (N : Nat) (ts : List Tr) (w : World) (m i : Value) (wr : World) : Prop := ∃ k : Nat, k ≤ cub N ∧ i = .int .i64 k ∧ m = .int .i64 (cntK N ts k) ∧ w.grownBy wr none

end Go.Proofs.YtlnffpofbfigaaaGreatDoor

/-
  The model's FollowsFrom. No condition.
-/
namespace Go.Proofs.YtlnffpofbfigaaaGreatDoor
open Go.RowKit

theorem sff_no1 (n : Int) (a : Option Addr) (cap : Nat) (ss : List ByteArray) (s : ByteArray) (w : World) (h : StrsAt w a ss) (ho : premB (ss.map bl) = false) :
    Calls Tryz.prog 75 #[.int .i64 n, .slice a ss.length cap, .string s] w fun e w' => e = .returned (.bool false) ∧ w = w' := by
  have cp := sprem_any a cap ss w h
  rw [ho] at cp
  clear h ho
  go_enter Tryz.func75, Tryz.ntmps75
  go_wp2_with (go_at_call 113; refine cp.mono ?_; clear cp; rintro e w1 ⟨rfl, rfl⟩)
  go_ret
  exact ⟨rfl, rfl⟩
theorem sff_no2 (n : Int) (a : Option Addr) (cap : Nat) (ss : List ByteArray) (s : ByteArray) (w : World) (h : StrsAt w a ss) (ho : premB (ss.map bl) = true) (hi : inB n 1 6 = false ∨ fOf (bl s) = none) :
    Calls Tryz.prog 75 #[.int .i64 n, .slice a ss.length cap, .string s] w fun e w' => e = .returned (.bool false) ∧ w = w' := by
  have cp := sprem_any a cap ss w h
  have cl := sleast_no n s w hi
  rw [ho] at cp
  clear h ho hi
  go_enter Tryz.func75, Tryz.ntmps75
  go_wp2_with (first | (go_at_call 113; refine cp.mono ?_; clear cp; rintro e w1 ⟨rfl, rfl⟩) | (go_at_call 66; refine cl.mono ?_; clear cl; rintro e w1 ⟨rfl, rfl⟩))
  go_ret
  exact ⟨rfl, rfl⟩

def SfRel (N : Nat) (ts : List Tr) (t : Tr) (w : World) (i : Value) (wr : World) : Prop := ∃ k : Nat, k ≤ cub N ∧ i = .int .i64 k ∧ (∀ j, j < k → allK N ts j = true → truK N t j = true) ∧ w.grownBy wr none

set_option maxRecDepth 100000 in
set_option maxHeartbeats 4000000 in
theorem sff_yes (N : Nat) (hN : 1 ≤ N ∧ N ≤ 6) (a : Option Addr) (cap : Nat) (ss : List ByteArray) (s : ByteArray) (w : World) (h : StrsAt w a ss) {ts : List Tr} {t : Tr} (ho : prOf (ss.map bl) = some ts) (ht : fOf (bl s) = some t) :
    Calls Tryz.prog 75 #[.int .i64 N, .slice a ss.length cap, .string s] w fun e w' => e = .returned (.bool (folK N ts t)) ∧ w.grownBy w' none := by
  have cp := sprem_any a cap ss w h
  rw [premB_t ho] at cp
  have cl := sleast_yes N hN s w ht
  have l0 : 0 ≤ lowU N t (cub N) := by have := vokB_of (lowU_ok hN t (cub N)); omega
  obtain ⟨hs, hl⟩ := fOf_some ht
  have hsz : s.size ≤ 1048576 := by rw [bl_size, hs]; omega
  have cv : ∀ (k : Nat) (w : World), Calls Tryz.prog 111 #[.int .i64 N, .string s, .int .i64 (tA N k), .int .i64 (tB N k), .int .i64 (tC N k)] w fun e w' => e = .returned (.int .i64 (atK N t k)) ∧ w = w' := fun k w => sv_all (tri_ok hN k) t s w hs hsz
  have Hh := Lib.hid h
  have Ho := Lib.hid ho
  clear h ho ht hs hl hsz
  have hc := cub_le hN.2
  obtain ⟨M, m1, m2⟩ := cub_q hN
  have m0 : ¬ ((N : Int) + 1 = 0) := by omega
  generalize lowU N t (cub N) = L at *
  go_enter Tryz.func75, Tryz.ntmps75
  go_wp2_with (first | (go_at_call 113; refine cp.mono ?_; clear cp; rintro e w1 ⟨rfl, rfl⟩) | (go_at_call 66; refine cl.mono ?_; clear cl; rintro e w1 ⟨rfl, g1⟩))
  go_loopw [8] (fun i wr => SfRel N ts t w i wr) (fun i _ => cub N - (intOf i).toNat)
  case atStart => exact ⟨0, by omega, rfl, fun j hj => absurd hj (by omega), g1⟩
  case round =>
    obtain ⟨k, hk, rfl, hT, hgr⟩ := hrel
    have HT := Lib.hid hT
    clear hT
    by_cases hlt : k < cub N
    · obtain ⟨D, d0, d1, p0, p1, p2, p3⟩ := place_q hlt
      have a0 := tA_le N k
      have b0 := tB_le N k
      have c0 := tC_le N k
      have z1 : IntKind.i64.wrap D = D := IntWalk.i64_in _ (by omega)
      have z2 : IntKind.i64.wrap (tA N k : Int) = tA N k := IntWalk.i64_in _ (by omega)
      have z3 : IntKind.i64.wrap (tB N k : Int) = tB N k := IntWalk.i64_in _ (by omega)
      have z4 : IntKind.i64.wrap (tC N k : Int) = tC N k := IntWalk.i64_in _ (by omega)
      have ca : ∀ n, Calls Tryz.prog 114 #[.int .i64 N, .slice a ss.length cap, .int .i64 (tA N k), .int .i64 (tB N k), .int .i64 (tC N k)] (wr.drewN n) fun e w' => e = .returned (.bool (allK N ts k)) ∧ ∃ m, w' = wr.drewN m :=
        fun n => (sall_any N hN k a cap ss ts Ho.out (wr.drewN n) (Hh.out.grown (grownBy_drewN hgr n))).mono fun e w' h => ⟨h.1, n, h.2.symm⟩
      have cvk : ∀ n, Calls Tryz.prog 111 #[.int .i64 N, .string s, .int .i64 (tA N k), .int .i64 (tB N k), .int .i64 (tC N k)] (wr.drewN n) fun e w' => e = .returned (.int .i64 (atK N t k)) ∧ ∃ m, w' = wr.drewN m :=
        fun n => (cv k (wr.drewN n)).mono fun e w' h => ⟨h.1, n, h.2.symm⟩
      clear cv
      cases hv : allK N ts k
      · rw [hv] at ca
        have hn : Hid (∀ j, j < k + 1 → allK N ts j = true → truK N t j = true) := fun j hj hj2 => by
          by_cases e : j = k
          · rw [e, hv] at hj2; cases hj2
          · exact HT.out j (by omega) hj2
        clear hv cvk
        go_wp2
        go_quiet (first | (go_at_call 114; exact ca _))
        go_wp2
        go_roundw
        case rel => exact ⟨k + 1, by omega, by go_num, hn.out, grownBy_drewN hgr _⟩
        case measure => simp [intOf]; omega
      · rw [hv] at ca
        cases hu : truK N t k
        · have e : Hid (folK N ts t = false) := folK_no hlt hv hu
          have hat := truK_lt hN hu
          clear hv hu
          generalize atK N t k = q at *
          go_wp2
          go_quiet (first | (go_at_call 114; exact ca _) | (go_at_call 111; exact cvk _))
          go_wp2
          go_ret
          exact ⟨by rw [e.out]; rfl, grownBy_drewN hgr _⟩
        · have hn : Hid (∀ j, j < k + 1 → allK N ts j = true → truK N t j = true) := fun j hj hj2 => by
            by_cases e : j = k
            · rw [e]; exact hu
            · exact HT.out j (by omega) hj2
          rw [truK_eq hu] at cvk
          clear hv hu
          go_wp2
          go_quiet (first | (go_at_call 114; exact ca _) | (go_at_call 111; exact cvk _))
          go_wp2
          go_roundw
          case rel => exact ⟨k + 1, by omega, by go_num, hn.out, grownBy_drewN hgr _⟩
          case measure => simp [intOf]; omega
    · obtain rfl : k = cub N := by omega
      have e : Hid (folK N ts t = true) := folK_mk fun j hj hj2 => HT.out j hj hj2
      go_wp2
      go_ret
      exact ⟨by rw [e.out]; rfl, hgr⟩

theorem sff_any (n : Int) (a : Option Addr) (cap : Nat) (ss : List ByteArray) (s : ByteArray) (w : World) (h : StrsAt w a ss) :
    Calls Tryz.prog 75 #[.int .i64 n, .slice a ss.length cap, .string s] w fun e w' => e = .returned (.bool (folI n (ss.map bl) (bl s))) ∧ w.grownBy w' none := by
  cases ho : prOf (ss.map bl) with
  | none => rw [folI_p ho]; exact (sff_no1 n a cap ss s w h (premB_f ho)).mono fun e w' ⟨h1, h2⟩ => ⟨h1, by rw [h2]; exact grownBy_refl _ _⟩
  | some ts =>
    cases hi : inB n 1 6
    · rw [folI_o hi]; exact (sff_no2 n a cap ss s w h (premB_t ho) (.inl hi)).mono fun e w' ⟨h1, h2⟩ => ⟨h1, by rw [h2]; exact grownBy_refl _ _⟩
    · cases hf : fOf (bl s) with
      | none => rw [folI_n hf]; exact (sff_no2 n a cap ss s w h (premB_t ho) (.inr hf)).mono fun e w' ⟨h1, h2⟩ => ⟨h1, by rw [h2]; exact grownBy_refl _ _⟩
      | some t =>
        obtain ⟨N, rfl, hN⟩ := nat_of hi
        rw [folI_t ho hf hi]
        exact sff_yes N hN a cap ss s w h ho hf

end Go.Proofs.YtlnffpofbfigaaaGreatDoor

/-
  The model's DeskLine at the other lines: from, at, and what is no question.
-/
namespace Go.Proofs.YtlnffpofbfigaaaGreatDoor
open Go.RowKit


set_option maxRecDepth 8000 in
set_option maxHeartbeats 2000000 in
theorem sdl_c (N : Nat) (s : List UInt8) (xs : List Ld) (l : List UInt8) (hn : rdD l = none) (hq : l ∉ askW) (hl : l.length ≤ 2097152) (hc : (cutL 32 l).length ≠ 2 ∧ (cutL 32 l).length ≠ 4) (a : Option Addr) (cap : Nat) (w : World) (hN : NowOk N s) (h : LdsAt w a xs) (h0 : a = none → cap = 0) (hd : dkB (((N : Int), s), xs) = true) :
    Calls Tryz.prog 21 #[.agg #[.int .i64 N, .string (bs s), .slice a xs.length cap], .string (bs l)] w (LinePost (((N, s), xs), ansO N s l) w) := by
  have g2 : w.grownBy ((w.alloc (.cells #[.int .i64 N, .string (bs s), .slice a xs.length cap] 32)).alloc (.cells #[.int .i64 0, .string ⟨#[]⟩, .slice none 0 0] 32)) none := grownBy_trans (World.grownBy_alloc w _ none) (World.grownBy_alloc _ _ none)
  have hZ := Lib.hid (CellsAt.second w (.cells #[.int .i64 N, .string (bs s), .slice a xs.length cap] 32) #[.int .i64 0, .string ⟨#[]⟩, .slice none 0 0] 32)
  have hD := Lib.hid (CellsAt.first w (.cells #[.int .i64 0, .string ⟨#[]⟩, .slice none 0 0] 32) #[.int .i64 N, .string (bs s), .slice a xs.length cap] 32)
  have ck := sdesk_is ((N, s), xs) a cap _ (h.grown g2)
  rw [hd] at ck
  unfold dkV at ck
  have cr := fun w => srd_v l _ (rdV_none hn) w hl
  unfold ddV nilDd at cr
  rw [show bs ([] : List UInt8) = ⟨#[]⟩ from rfl] at cr
  have hx8 : xs.length ≤ 9 := by have := (dkB_of hd).2.2; change xs.length ≤ 8 at this; omega
  have cc : ∀ W, LdsAt W a xs → Calls Tryz.prog 60 #[.agg #[.int .i64 N, .string (bs s), .slice a xs.length cap]] W fun e w' => ∃ a' cap', e = .returned (.agg #[.int .i64 N, .string (bs s), .slice a' xs.length cap']) ∧ Own2 w' W.heap.size a' cap' xs ∧ W.grownBy w' none := fun W hW => scopy_any ((N, s), xs) a cap W hW h0 hx8
  have HX := Lib.hid (h.grown g2)
  have G2 := Lib.hid g2
  have HN := Lib.hid hN
  obtain ⟨U, hU⟩ : ∃ U, U = bs l := ⟨_, rfl⟩
  rw [← hU] at cr ⊢
  have u0 : (U.toList == [115, 116, 101, 112, 115]) = false := by rw [hU, toL_bs]; exact beq_false_of_ne fun e => hq (by rw [e]; decide)
  have u1 : (U.toList == [116, 101, 120, 116]) = false := by rw [hU, toL_bs]; exact beq_false_of_ne fun e => hq (by rw [e]; decide)
  have u2 : (U.toList == [97, 108, 119, 97, 121, 115]) = false := by rw [hU, toL_bs]; exact beq_false_of_ne fun e => hq (by rw [e]; decide)
  have u3 : (U.toList == [108, 101, 97, 115, 116]) = false := by rw [hU, toL_bs]; exact beq_false_of_ne fun e => hq (by rw [e]; decide)
  have u4 : (U.toList == [97, 103, 97, 105, 110, 115, 116]) = false := by rw [hU, toL_bs]; exact beq_false_of_ne fun e => hq (by rw [e]; decide)
  have u5 : (U.toList == [99, 104, 97, 105, 110, 115]) = false := by rw [hU, toL_bs]; exact beq_false_of_ne fun e => hq (by rw [e]; decide)
  have u6 : (U.toList == [108, 101, 116, 116, 101, 114, 115]) = false := by rw [hU, toL_bs]; exact beq_false_of_ne fun e => hq (by rw [e]; decide)
  have u7 : (U.toList == [109, 111, 118, 101, 115]) = false := by rw [hU, toL_bs]; exact beq_false_of_ne fun e => hq (by rw [e]; decide)
  have u8 : (U.toList == [114, 111, 119]) = false := by rw [hU, toL_bs]; exact beq_false_of_ne fun e => hq (by rw [e]; decide)
  rw [show ansO N s l = whatA from by
    unfold ansO
    split
    · rename_i e; rw [e] at hc; exact absurd rfl hc.1
    · rename_i e; rw [e] at hc; exact absurd rfl hc.2
    · rfl]
  unfold whatA
  have cs : ∀ W, Calls Tryz.prog 73 #[.string U, .int .u8 32] W (ScPost 32 l W) := fun W => by rw [hU]; exact sct_any l hl W
  unfold ScPost at cs
  have l2 : (((cutL 32 l).length : Int) == 2) = false := beq_false_of_ne (by have := hc.1; omega)
  have l4 : ¬ (((cutL 32 l).length : Int) = 4) := by have := hc.2; omega
  clear h g2 hd hx8 hU hq hn hl hc
  go_enter Tryz.func21, Tryz.ntmps21
  go_wp2_with fail
  generalize (w.alloc (.cells #[.int .i64 N, .string (bs s), .slice a xs.length cap] 32)).alloc (.cells #[.int .i64 0, .string ⟨#[]⟩, .slice none 0 0] 32) = W at *
  refine ck.mono ?_
  rintro e w1 ⟨rfl, hg1⟩
  have G1 := Lib.hid (grownBy_trans G2.out hg1)
  have HX1 := Lib.hid (HX.out.grown hg1)
  have hD1 := Lib.hid (hD.out.grown hg1)
  have hZ1 := Lib.hid (hZ.out.grown hg1)
  obtain ⟨d0, d1, d2⟩ := hD1.out.three
  clear ck hg1
  go_wp2_with fail
  refine (cc _ HX1.out).mono ?_
  rintro e w2 ⟨a', c', rfl, ho, hg2⟩
  have gA := World.grownBy_alloc w2 (.cells #[.int .i64 N, .string (bs s), .slice a' xs.length c'] 32) none
  have g12 := grownBy_trans hg2 gA
  have G12 := Lib.hid (grownBy_trans G1.out g12)
  have hD2 := Lib.hid (hD1.out.grown g12)
  have hZ2 := Lib.hid (hZ1.out.grown g12)
  have hS2 := Lib.hid (CellsAt.new w2 #[.int .i64 N, .string (bs s), .slice a' xs.length c'] 32)
  have HO := Lib.hid ((ho.kept gA).l.mono G1.out.size)
  have HB := Lib.hid ho.bare
  have hb2 : Hid (w.heap.size + 2 ≤ w2.heap.size) := Lib.hid (by
    have := hZ1.out.lt; have := hg2.size; omega)
  clear cc ho hg2 gA g12 d0 d1 d2
  go_wp2_with fail
  generalize w2.alloc (.cells #[.int .i64 N, .string (bs s), .slice a' xs.length c'] 32) = W2 at *
  generalize w2.heap.size = sb at *
  refine (cr _).mono ?_
  rintro e w3 ⟨rfl, hg3⟩
  have gA3 := grownBy_trans hg3 (World.grownBy_alloc w3 (.cells #[.int .i64 0, .int .i64 0, .string ⟨#[]⟩] 40) none)
  have G3 := Lib.hid (grownBy_trans G12.out gA3)
  have hD3 := Lib.hid (hD2.out.grown gA3)
  have hZ3 := Lib.hid (hZ2.out.grown gA3)
  have hS3 := Lib.hid (hS2.out.grown gA3)
  have HO3 := Lib.hid (HO.out.kept gA3)
  obtain ⟨d0, d1, d2⟩ := hD3.out.three
  obtain ⟨s0, s1, s2⟩ := hS3.out.three
  obtain ⟨⟨y0, y1, y2⟩, v0, v1, v2⟩ := dk_facts hZ3.out
  clear cr hg3 gA3
  go_wp2_with fail
  generalize w3.alloc (.cells #[.int .i64 0, .int .i64 0, .string ⟨#[]⟩] 40) = W3 at *
  refine (cs _).mono ?_
  rintro e w4 ⟨aw, cw, rfl, hT, hg4⟩
  clear hT
  have hZ4 := Lib.hid (hZ3.out.grown hg4)
  have hS4 := Lib.hid (hS3.out.grown hg4)
  have G4 := Lib.hid (grownBy_trans G3.out hg4)
  have HO4 := Lib.hid (HO3.out.kept hg4)
  obtain ⟨s0n, s1n, s2n⟩ := hS4.out.three
  obtain ⟨⟨y0n, y1n, y2n⟩, v0n, v1n, v2n⟩ := dk_facts hZ4.out
  clear cs hg4 hZ3 hS3 G3 HO3 s0 s1 s2 y0 y1 y2 v0 v1 v2
  generalize (cutL 32 l).length = L at *
  go_wp2_with fail
  have HZn := hZ4
  have HO := HO4
  have G3 := G4
  have GN : Hid (w4.grownBy w4 none) := Lib.hid (grownBy_refl _ _)
  have P : LinePost (((N, s), xs), ⟨#[119, 104, 97, 116]⟩) w (.returned (.tuple #[.agg #[.int .i64 N, .string (bs s), .slice a' xs.length c'], .string ⟨#[119, 104, 97, 116]⟩])) (((w4.setCell ⟨w.heap.size + 1, 0, none⟩ (.int .i64 N)).setCell ⟨w.heap.size + 1, 1, none⟩ (.string (bs s))).setCell ⟨w.heap.size + 1, 2, none⟩ (.slice a' xs.length c')) :=
    ⟨a', c', rfl, HO.out.put3 ⟨_, HZn.out⟩ _ _ _, HB.out, put3_grown _ (grownBy_trans G3.out GN.out) (by omega) _ _ _⟩
  exact bodyPost_ret (v := .tuple #[.agg #[.int .i64 N, .string (bs s), .slice a' xs.length c'], .string ⟨#[119, 104, 97, 116]⟩]) (resDkB (b := .string ⟨#[119, 104, 97, 116]⟩) rfl _ rfl rfl (HZn.out.put3 (.int .i64 N) (.string (bs s)) (.slice a' xs.length c'))) rfl P

set_option maxRecDepth 8000 in
set_option maxHeartbeats 2000000 in
theorem sdl_two (N : Nat) (s : List UInt8) (xs : List Ld) (l : List UInt8) (hn : rdD l = none) (hq : l ∉ askW) (hl : l.length ≤ 2097152) (f x : List UInt8) (hf : f ≠ [102, 114, 111, 109]) (hc : cutL 32 l = [f, x]) (a : Option Addr) (cap : Nat) (w : World) (hN : NowOk N s) (h : LdsAt w a xs) (h0 : a = none → cap = 0) (hd : dkB (((N : Int), s), xs) = true) :
    Calls Tryz.prog 21 #[.agg #[.int .i64 N, .string (bs s), .slice a xs.length cap], .string (bs l)] w (LinePost (((N, s), xs), ansO N s l) w) := by
  have g2 : w.grownBy ((w.alloc (.cells #[.int .i64 N, .string (bs s), .slice a xs.length cap] 32)).alloc (.cells #[.int .i64 0, .string ⟨#[]⟩, .slice none 0 0] 32)) none := grownBy_trans (World.grownBy_alloc w _ none) (World.grownBy_alloc _ _ none)
  have hZ := Lib.hid (CellsAt.second w (.cells #[.int .i64 N, .string (bs s), .slice a xs.length cap] 32) #[.int .i64 0, .string ⟨#[]⟩, .slice none 0 0] 32)
  have hD := Lib.hid (CellsAt.first w (.cells #[.int .i64 0, .string ⟨#[]⟩, .slice none 0 0] 32) #[.int .i64 N, .string (bs s), .slice a xs.length cap] 32)
  have ck := sdesk_is ((N, s), xs) a cap _ (h.grown g2)
  rw [hd] at ck
  unfold dkV at ck
  have cr := fun w => srd_v l _ (rdV_none hn) w hl
  unfold ddV nilDd at cr
  rw [show bs ([] : List UInt8) = ⟨#[]⟩ from rfl] at cr
  have hx8 : xs.length ≤ 9 := by have := (dkB_of hd).2.2; change xs.length ≤ 8 at this; omega
  have cc : ∀ W, LdsAt W a xs → Calls Tryz.prog 60 #[.agg #[.int .i64 N, .string (bs s), .slice a xs.length cap]] W fun e w' => ∃ a' cap', e = .returned (.agg #[.int .i64 N, .string (bs s), .slice a' xs.length cap']) ∧ Own2 w' W.heap.size a' cap' xs ∧ W.grownBy w' none := fun W hW => scopy_any ((N, s), xs) a cap W hW h0 hx8
  have HX := Lib.hid (h.grown g2)
  have G2 := Lib.hid g2
  have HN := Lib.hid hN
  obtain ⟨U, hU⟩ : ∃ U, U = bs l := ⟨_, rfl⟩
  rw [← hU] at cr ⊢
  have u0 : (U.toList == [115, 116, 101, 112, 115]) = false := by rw [hU, toL_bs]; exact beq_false_of_ne fun e => hq (by rw [e]; decide)
  have u1 : (U.toList == [116, 101, 120, 116]) = false := by rw [hU, toL_bs]; exact beq_false_of_ne fun e => hq (by rw [e]; decide)
  have u2 : (U.toList == [97, 108, 119, 97, 121, 115]) = false := by rw [hU, toL_bs]; exact beq_false_of_ne fun e => hq (by rw [e]; decide)
  have u3 : (U.toList == [108, 101, 97, 115, 116]) = false := by rw [hU, toL_bs]; exact beq_false_of_ne fun e => hq (by rw [e]; decide)
  have u4 : (U.toList == [97, 103, 97, 105, 110, 115, 116]) = false := by rw [hU, toL_bs]; exact beq_false_of_ne fun e => hq (by rw [e]; decide)
  have u5 : (U.toList == [99, 104, 97, 105, 110, 115]) = false := by rw [hU, toL_bs]; exact beq_false_of_ne fun e => hq (by rw [e]; decide)
  have u6 : (U.toList == [108, 101, 116, 116, 101, 114, 115]) = false := by rw [hU, toL_bs]; exact beq_false_of_ne fun e => hq (by rw [e]; decide)
  have u7 : (U.toList == [109, 111, 118, 101, 115]) = false := by rw [hU, toL_bs]; exact beq_false_of_ne fun e => hq (by rw [e]; decide)
  have u8 : (U.toList == [114, 111, 119]) = false := by rw [hU, toL_bs]; exact beq_false_of_ne fun e => hq (by rw [e]; decide)
  rw [show ansO N s l = whatA from by unfold ansO; rw [hc]; exact if_neg fun k => hf k.1]
  unfold whatA
  have cs : ∀ W, Calls Tryz.prog 73 #[.string U, .int .u8 32] W (ScPost 32 l W) := fun W => by rw [hU]; exact sct_any l hl W
  unfold ScPost at cs
  have l2 : (cutL 32 l).length = 2 := by rw [hc]; rfl
  rw [l2] at cs
  have uf : ((bs f).toList == [102, 114, 111, 109]) = false := by rw [toL_bs]; exact beq_false_of_ne hf
  clear h g2 hd hx8 hU hq hn hl l2 hf
  go_enter Tryz.func21, Tryz.ntmps21
  go_wp2_with fail
  generalize (w.alloc (.cells #[.int .i64 N, .string (bs s), .slice a xs.length cap] 32)).alloc (.cells #[.int .i64 0, .string ⟨#[]⟩, .slice none 0 0] 32) = W at *
  refine ck.mono ?_
  rintro e w1 ⟨rfl, hg1⟩
  have G1 := Lib.hid (grownBy_trans G2.out hg1)
  have HX1 := Lib.hid (HX.out.grown hg1)
  have hD1 := Lib.hid (hD.out.grown hg1)
  have hZ1 := Lib.hid (hZ.out.grown hg1)
  obtain ⟨d0, d1, d2⟩ := hD1.out.three
  clear ck hg1
  go_wp2_with fail
  refine (cc _ HX1.out).mono ?_
  rintro e w2 ⟨a', c', rfl, ho, hg2⟩
  have gA := World.grownBy_alloc w2 (.cells #[.int .i64 N, .string (bs s), .slice a' xs.length c'] 32) none
  have g12 := grownBy_trans hg2 gA
  have G12 := Lib.hid (grownBy_trans G1.out g12)
  have hD2 := Lib.hid (hD1.out.grown g12)
  have hZ2 := Lib.hid (hZ1.out.grown g12)
  have hS2 := Lib.hid (CellsAt.new w2 #[.int .i64 N, .string (bs s), .slice a' xs.length c'] 32)
  have HO := Lib.hid ((ho.kept gA).l.mono G1.out.size)
  have HB := Lib.hid ho.bare
  have hb2 : Hid (w.heap.size + 2 ≤ w2.heap.size) := Lib.hid (by
    have := hZ1.out.lt; have := hg2.size; omega)
  clear cc ho hg2 gA g12 d0 d1 d2
  go_wp2_with fail
  generalize w2.alloc (.cells #[.int .i64 N, .string (bs s), .slice a' xs.length c'] 32) = W2 at *
  generalize w2.heap.size = sb at *
  refine (cr _).mono ?_
  rintro e w3 ⟨rfl, hg3⟩
  have gA3 := grownBy_trans hg3 (World.grownBy_alloc w3 (.cells #[.int .i64 0, .int .i64 0, .string ⟨#[]⟩] 40) none)
  have G3 := Lib.hid (grownBy_trans G12.out gA3)
  have hD3 := Lib.hid (hD2.out.grown gA3)
  have hZ3 := Lib.hid (hZ2.out.grown gA3)
  have hS3 := Lib.hid (hS2.out.grown gA3)
  have HO3 := Lib.hid (HO.out.kept gA3)
  obtain ⟨d0, d1, d2⟩ := hD3.out.three
  obtain ⟨s0, s1, s2⟩ := hS3.out.three
  obtain ⟨⟨y0, y1, y2⟩, v0, v1, v2⟩ := dk_facts hZ3.out
  clear cr hg3 gA3
  go_wp2_with fail
  generalize w3.alloc (.cells #[.int .i64 0, .int .i64 0, .string ⟨#[]⟩] 40) = W3 at *
  refine (cs _).mono ?_
  rintro e w4 ⟨aw, cw, rfl, hT, hg4⟩
  obtain ⟨g0, rfl, hT⟩ := hT
  rw [hc] at hT
  have t0 := hT 0 (by simp)
  have t1 := hT 1 (by simp)
  change w4.cell? ⟨g0, 0, none⟩ = some (.string (bs f)) at t0
  change w4.cell? ⟨g0, 1, none⟩ = some (.string (bs x)) at t1
  clear hT
  have hZ4 := Lib.hid (hZ3.out.grown hg4)
  have hS4 := Lib.hid (hS3.out.grown hg4)
  have G4 := Lib.hid (grownBy_trans G3.out hg4)
  have HO4 := Lib.hid (HO3.out.kept hg4)
  obtain ⟨s0n, s1n, s2n⟩ := hS4.out.three
  obtain ⟨⟨y0n, y1n, y2n⟩, v0n, v1n, v2n⟩ := dk_facts hZ4.out
  clear cs hg4 hZ3 hS3 G3 HO3 s0 s1 s2 y0 y1 y2 v0 v1 v2
  generalize bs f = F at *
  generalize bs x = X at *
  clear hc
  go_wp2_with fail
  have HZn := hZ4
  have HO := HO4
  have G3 := G4
  have GN : Hid (w4.grownBy w4 none) := Lib.hid (grownBy_refl _ _)
  have P : LinePost (((N, s), xs), ⟨#[119, 104, 97, 116]⟩) w (.returned (.tuple #[.agg #[.int .i64 N, .string (bs s), .slice a' xs.length c'], .string ⟨#[119, 104, 97, 116]⟩])) (((w4.setCell ⟨w.heap.size + 1, 0, none⟩ (.int .i64 N)).setCell ⟨w.heap.size + 1, 1, none⟩ (.string (bs s))).setCell ⟨w.heap.size + 1, 2, none⟩ (.slice a' xs.length c')) :=
    ⟨a', c', rfl, HO.out.put3 ⟨_, HZn.out⟩ _ _ _, HB.out, put3_grown _ (grownBy_trans G3.out GN.out) (by omega) _ _ _⟩
  exact bodyPost_ret (v := .tuple #[.agg #[.int .i64 N, .string (bs s), .slice a' xs.length c'], .string ⟨#[119, 104, 97, 116]⟩]) (resDkB (b := .string ⟨#[119, 104, 97, 116]⟩) rfl _ rfl rfl (HZn.out.put3 (.int .i64 N) (.string (bs s)) (.slice a' xs.length c'))) rfl P

set_option maxRecDepth 8000 in
set_option maxHeartbeats 2000000 in
theorem sdl_nofrom (N : Nat) (s : List UInt8) (xs : List Ld) (l : List UInt8) (hn : rdD l = none) (hq : l ∉ askW) (hl : l.length ≤ 2097152) (f x : List UInt8) (hf : f = [102, 114, 111, 109]) (hx : isF x = false) (hc : cutL 32 l = [f, x]) (a : Option Addr) (cap : Nat) (w : World) (hN : NowOk N s) (h : LdsAt w a xs) (h0 : a = none → cap = 0) (hd : dkB (((N : Int), s), xs) = true) :
    Calls Tryz.prog 21 #[.agg #[.int .i64 N, .string (bs s), .slice a xs.length cap], .string (bs l)] w (LinePost (((N, s), xs), ansO N s l) w) := by
  have g2 : w.grownBy ((w.alloc (.cells #[.int .i64 N, .string (bs s), .slice a xs.length cap] 32)).alloc (.cells #[.int .i64 0, .string ⟨#[]⟩, .slice none 0 0] 32)) none := grownBy_trans (World.grownBy_alloc w _ none) (World.grownBy_alloc _ _ none)
  have hZ := Lib.hid (CellsAt.second w (.cells #[.int .i64 N, .string (bs s), .slice a xs.length cap] 32) #[.int .i64 0, .string ⟨#[]⟩, .slice none 0 0] 32)
  have hD := Lib.hid (CellsAt.first w (.cells #[.int .i64 0, .string ⟨#[]⟩, .slice none 0 0] 32) #[.int .i64 N, .string (bs s), .slice a xs.length cap] 32)
  have ck := sdesk_is ((N, s), xs) a cap _ (h.grown g2)
  rw [hd] at ck
  unfold dkV at ck
  have cr := fun w => srd_v l _ (rdV_none hn) w hl
  unfold ddV nilDd at cr
  rw [show bs ([] : List UInt8) = ⟨#[]⟩ from rfl] at cr
  have hx8 : xs.length ≤ 9 := by have := (dkB_of hd).2.2; change xs.length ≤ 8 at this; omega
  have cc : ∀ W, LdsAt W a xs → Calls Tryz.prog 60 #[.agg #[.int .i64 N, .string (bs s), .slice a xs.length cap]] W fun e w' => ∃ a' cap', e = .returned (.agg #[.int .i64 N, .string (bs s), .slice a' xs.length cap']) ∧ Own2 w' W.heap.size a' cap' xs ∧ W.grownBy w' none := fun W hW => scopy_any ((N, s), xs) a cap W hW h0 hx8
  have HX := Lib.hid (h.grown g2)
  have G2 := Lib.hid g2
  have HN := Lib.hid hN
  obtain ⟨U, hU⟩ : ∃ U, U = bs l := ⟨_, rfl⟩
  rw [← hU] at cr ⊢
  have u0 : (U.toList == [115, 116, 101, 112, 115]) = false := by rw [hU, toL_bs]; exact beq_false_of_ne fun e => hq (by rw [e]; decide)
  have u1 : (U.toList == [116, 101, 120, 116]) = false := by rw [hU, toL_bs]; exact beq_false_of_ne fun e => hq (by rw [e]; decide)
  have u2 : (U.toList == [97, 108, 119, 97, 121, 115]) = false := by rw [hU, toL_bs]; exact beq_false_of_ne fun e => hq (by rw [e]; decide)
  have u3 : (U.toList == [108, 101, 97, 115, 116]) = false := by rw [hU, toL_bs]; exact beq_false_of_ne fun e => hq (by rw [e]; decide)
  have u4 : (U.toList == [97, 103, 97, 105, 110, 115, 116]) = false := by rw [hU, toL_bs]; exact beq_false_of_ne fun e => hq (by rw [e]; decide)
  have u5 : (U.toList == [99, 104, 97, 105, 110, 115]) = false := by rw [hU, toL_bs]; exact beq_false_of_ne fun e => hq (by rw [e]; decide)
  have u6 : (U.toList == [108, 101, 116, 116, 101, 114, 115]) = false := by rw [hU, toL_bs]; exact beq_false_of_ne fun e => hq (by rw [e]; decide)
  have u7 : (U.toList == [109, 111, 118, 101, 115]) = false := by rw [hU, toL_bs]; exact beq_false_of_ne fun e => hq (by rw [e]; decide)
  have u8 : (U.toList == [114, 111, 119]) = false := by rw [hU, toL_bs]; exact beq_false_of_ne fun e => hq (by rw [e]; decide)
  rw [show ansO N s l = whatA from by unfold ansO; rw [hc]; exact if_neg fun k => by rw [hx] at k; exact absurd k.2 (by simp)]
  unfold whatA
  have cs : ∀ W, Calls Tryz.prog 73 #[.string U, .int .u8 32] W (ScPost 32 l W) := fun W => by rw [hU]; exact sct_any l hl W
  unfold ScPost at cs
  have l2 : (cutL 32 l).length = 2 := by rw [hc]; rfl
  rw [l2] at cs
  have uf : ((bs f).toList == [102, 114, 111, 109]) = true := by rw [toL_bs, hf]; rfl
  have cf : ∀ W, Calls Tryz.prog 74 #[.string (bs x)] W fun e w' => e = .returned (.bool false) ∧ W = w' := fun W => by rw [← hx]; exact sform_any (bs x) W
  clear h g2 hd hx8 hU hq hn hl l2 hf hx
  go_enter Tryz.func21, Tryz.ntmps21
  go_wp2_with fail
  generalize (w.alloc (.cells #[.int .i64 N, .string (bs s), .slice a xs.length cap] 32)).alloc (.cells #[.int .i64 0, .string ⟨#[]⟩, .slice none 0 0] 32) = W at *
  refine ck.mono ?_
  rintro e w1 ⟨rfl, hg1⟩
  have G1 := Lib.hid (grownBy_trans G2.out hg1)
  have HX1 := Lib.hid (HX.out.grown hg1)
  have hD1 := Lib.hid (hD.out.grown hg1)
  have hZ1 := Lib.hid (hZ.out.grown hg1)
  obtain ⟨d0, d1, d2⟩ := hD1.out.three
  clear ck hg1
  go_wp2_with fail
  refine (cc _ HX1.out).mono ?_
  rintro e w2 ⟨a', c', rfl, ho, hg2⟩
  have gA := World.grownBy_alloc w2 (.cells #[.int .i64 N, .string (bs s), .slice a' xs.length c'] 32) none
  have g12 := grownBy_trans hg2 gA
  have G12 := Lib.hid (grownBy_trans G1.out g12)
  have hD2 := Lib.hid (hD1.out.grown g12)
  have hZ2 := Lib.hid (hZ1.out.grown g12)
  have hS2 := Lib.hid (CellsAt.new w2 #[.int .i64 N, .string (bs s), .slice a' xs.length c'] 32)
  have HO := Lib.hid ((ho.kept gA).l.mono G1.out.size)
  have HB := Lib.hid ho.bare
  have hb2 : Hid (w.heap.size + 2 ≤ w2.heap.size) := Lib.hid (by
    have := hZ1.out.lt; have := hg2.size; omega)
  clear cc ho hg2 gA g12 d0 d1 d2
  go_wp2_with fail
  generalize w2.alloc (.cells #[.int .i64 N, .string (bs s), .slice a' xs.length c'] 32) = W2 at *
  generalize w2.heap.size = sb at *
  refine (cr _).mono ?_
  rintro e w3 ⟨rfl, hg3⟩
  have gA3 := grownBy_trans hg3 (World.grownBy_alloc w3 (.cells #[.int .i64 0, .int .i64 0, .string ⟨#[]⟩] 40) none)
  have G3 := Lib.hid (grownBy_trans G12.out gA3)
  have hD3 := Lib.hid (hD2.out.grown gA3)
  have hZ3 := Lib.hid (hZ2.out.grown gA3)
  have hS3 := Lib.hid (hS2.out.grown gA3)
  have HO3 := Lib.hid (HO.out.kept gA3)
  obtain ⟨d0, d1, d2⟩ := hD3.out.three
  obtain ⟨s0, s1, s2⟩ := hS3.out.three
  obtain ⟨⟨y0, y1, y2⟩, v0, v1, v2⟩ := dk_facts hZ3.out
  clear cr hg3 gA3
  go_wp2_with fail
  generalize w3.alloc (.cells #[.int .i64 0, .int .i64 0, .string ⟨#[]⟩] 40) = W3 at *
  refine (cs _).mono ?_
  rintro e w4 ⟨aw, cw, rfl, hT, hg4⟩
  obtain ⟨g0, rfl, hT⟩ := hT
  rw [hc] at hT
  have t0 := hT 0 (by simp)
  have t1 := hT 1 (by simp)
  change w4.cell? ⟨g0, 0, none⟩ = some (.string (bs f)) at t0
  change w4.cell? ⟨g0, 1, none⟩ = some (.string (bs x)) at t1
  clear hT
  have hZ4 := Lib.hid (hZ3.out.grown hg4)
  have hS4 := Lib.hid (hS3.out.grown hg4)
  have G4 := Lib.hid (grownBy_trans G3.out hg4)
  have HO4 := Lib.hid (HO3.out.kept hg4)
  obtain ⟨s0n, s1n, s2n⟩ := hS4.out.three
  obtain ⟨⟨y0n, y1n, y2n⟩, v0n, v1n, v2n⟩ := dk_facts hZ4.out
  clear cs hg4 hZ3 hS3 G3 HO3 s0 s1 s2 y0 y1 y2 v0 v1 v2
  generalize bs f = F at *
  generalize bs x = X at *
  clear hc
  go_wp2_with (first | (go_at_call 74; (with_reducible refine (cf _).mono ?_); rintro e wf ⟨rfl, rfl⟩))
  have HZn := hZ4
  have HO := HO4
  have G3 := G4
  have GN : Hid (w4.grownBy w4 none) := Lib.hid (grownBy_refl _ _)
  have P : LinePost (((N, s), xs), ⟨#[119, 104, 97, 116]⟩) w (.returned (.tuple #[.agg #[.int .i64 N, .string (bs s), .slice a' xs.length c'], .string ⟨#[119, 104, 97, 116]⟩])) (((w4.setCell ⟨w.heap.size + 1, 0, none⟩ (.int .i64 N)).setCell ⟨w.heap.size + 1, 1, none⟩ (.string (bs s))).setCell ⟨w.heap.size + 1, 2, none⟩ (.slice a' xs.length c')) :=
    ⟨a', c', rfl, HO.out.put3 ⟨_, HZn.out⟩ _ _ _, HB.out, put3_grown _ (grownBy_trans G3.out GN.out) (by omega) _ _ _⟩
  exact bodyPost_ret (v := .tuple #[.agg #[.int .i64 N, .string (bs s), .slice a' xs.length c'], .string ⟨#[119, 104, 97, 116]⟩]) (resDkB (b := .string ⟨#[119, 104, 97, 116]⟩) rfl _ rfl rfl (HZn.out.put3 (.int .i64 N) (.string (bs s)) (.slice a' xs.length c'))) rfl P
theorem strs1 (w : World) (X : ByteArray) : StrsAt (w.alloc (.cells #[.string X] 9)) (some ⟨w.heap.size, 0, none⟩) [X] :=
  ⟨by unfold maxLen; simp, .inr ⟨w.heap.size, 0, rfl, by show _ < (w.heap.push _).size; rw [Array.size_push]; omega, fun i hi => by
    obtain rfl : i = 0 := by simpa using hi
    exact (CellsAt.new w #[.string X] 9).cell rfl⟩⟩

set_option maxRecDepth 8000 in
set_option maxHeartbeats 2000000 in
theorem sdl_from (N : Nat) (s : List UInt8) (xs : List Ld) (l : List UInt8) (hn : rdD l = none) (hq : l ∉ askW) (hl : l.length ≤ 2097152) (f x : List UInt8) (hf : f = [102, 114, 111, 109]) (hx : isF x = true) (hc : cutL 32 l = [f, x]) (a : Option Addr) (cap : Nat) (w : World) (hN : NowOk N s) (h : LdsAt w a xs) (h0 : a = none → cap = 0) (hd : dkB (((N : Int), s), xs) = true) :
    Calls Tryz.prog 21 #[.agg #[.int .i64 N, .string (bs s), .slice a xs.length cap], .string (bs l)] w (LinePost (((N, s), xs), ansO N s l) w) := by
  have g2 : w.grownBy ((w.alloc (.cells #[.int .i64 N, .string (bs s), .slice a xs.length cap] 32)).alloc (.cells #[.int .i64 0, .string ⟨#[]⟩, .slice none 0 0] 32)) none := grownBy_trans (World.grownBy_alloc w _ none) (World.grownBy_alloc _ _ none)
  have hZ := Lib.hid (CellsAt.second w (.cells #[.int .i64 N, .string (bs s), .slice a xs.length cap] 32) #[.int .i64 0, .string ⟨#[]⟩, .slice none 0 0] 32)
  have hD := Lib.hid (CellsAt.first w (.cells #[.int .i64 0, .string ⟨#[]⟩, .slice none 0 0] 32) #[.int .i64 N, .string (bs s), .slice a xs.length cap] 32)
  have ck := sdesk_is ((N, s), xs) a cap _ (h.grown g2)
  rw [hd] at ck
  unfold dkV at ck
  have cr := fun w => srd_v l _ (rdV_none hn) w hl
  unfold ddV nilDd at cr
  rw [show bs ([] : List UInt8) = ⟨#[]⟩ from rfl] at cr
  have hx8 : xs.length ≤ 9 := by have := (dkB_of hd).2.2; change xs.length ≤ 8 at this; omega
  have cc : ∀ W, LdsAt W a xs → Calls Tryz.prog 60 #[.agg #[.int .i64 N, .string (bs s), .slice a xs.length cap]] W fun e w' => ∃ a' cap', e = .returned (.agg #[.int .i64 N, .string (bs s), .slice a' xs.length cap']) ∧ Own2 w' W.heap.size a' cap' xs ∧ W.grownBy w' none := fun W hW => scopy_any ((N, s), xs) a cap W hW h0 hx8
  have HX := Lib.hid (h.grown g2)
  have G2 := Lib.hid g2
  have HN := Lib.hid hN
  obtain ⟨U, hU⟩ : ∃ U, U = bs l := ⟨_, rfl⟩
  rw [← hU] at cr ⊢
  have u0 : (U.toList == [115, 116, 101, 112, 115]) = false := by rw [hU, toL_bs]; exact beq_false_of_ne fun e => hq (by rw [e]; decide)
  have u1 : (U.toList == [116, 101, 120, 116]) = false := by rw [hU, toL_bs]; exact beq_false_of_ne fun e => hq (by rw [e]; decide)
  have u2 : (U.toList == [97, 108, 119, 97, 121, 115]) = false := by rw [hU, toL_bs]; exact beq_false_of_ne fun e => hq (by rw [e]; decide)
  have u3 : (U.toList == [108, 101, 97, 115, 116]) = false := by rw [hU, toL_bs]; exact beq_false_of_ne fun e => hq (by rw [e]; decide)
  have u4 : (U.toList == [97, 103, 97, 105, 110, 115, 116]) = false := by rw [hU, toL_bs]; exact beq_false_of_ne fun e => hq (by rw [e]; decide)
  have u5 : (U.toList == [99, 104, 97, 105, 110, 115]) = false := by rw [hU, toL_bs]; exact beq_false_of_ne fun e => hq (by rw [e]; decide)
  have u6 : (U.toList == [108, 101, 116, 116, 101, 114, 115]) = false := by rw [hU, toL_bs]; exact beq_false_of_ne fun e => hq (by rw [e]; decide)
  have u7 : (U.toList == [109, 111, 118, 101, 115]) = false := by rw [hU, toL_bs]; exact beq_false_of_ne fun e => hq (by rw [e]; decide)
  have u8 : (U.toList == [114, 111, 119]) = false := by rw [hU, toL_bs]; exact beq_false_of_ne fun e => hq (by rw [e]; decide)
  rw [show ansO N s l = yesA (folI N [x] s) from by unfold ansO; rw [hc]; exact if_pos ⟨hf, hx⟩]
  have cs : ∀ W, Calls Tryz.prog 73 #[.string U, .int .u8 32] W (ScPost 32 l W) := fun W => by rw [hU]; exact sct_any l hl W
  unfold ScPost at cs
  have l2 : (cutL 32 l).length = 2 := by rw [hc]; rfl
  rw [l2] at cs
  have uf : ((bs f).toList == [102, 114, 111, 109]) = true := by rw [toL_bs, hf]; rfl
  have co : ∀ W, Calls Tryz.prog 74 #[.string (bs x)] W fun e w' => e = .returned (.bool true) ∧ W = w' := fun W => by rw [← hx]; exact sform_any (bs x) W
  have cf : ∀ W ai, StrsAt W ai [bs x] → Calls Tryz.prog 75 #[.int .i64 N, .slice ai 1 1, .string (bs s)] W fun e w' => e = .returned (.bool (folI N [x] s)) ∧ W.grownBy w' none := fun W ai hi => sff_any N ai 1 [bs x] (bs s) W hi
  have cy := fun W => syes_any (folI N [x] s) W
  generalize folI N [x] s = B at *
  clear h g2 hd hx8 hU hq hn hl l2 hf hx
  go_enter Tryz.func21, Tryz.ntmps21
  go_wp2_with fail
  generalize (w.alloc (.cells #[.int .i64 N, .string (bs s), .slice a xs.length cap] 32)).alloc (.cells #[.int .i64 0, .string ⟨#[]⟩, .slice none 0 0] 32) = W at *
  refine ck.mono ?_
  rintro e w1 ⟨rfl, hg1⟩
  have G1 := Lib.hid (grownBy_trans G2.out hg1)
  have HX1 := Lib.hid (HX.out.grown hg1)
  have hD1 := Lib.hid (hD.out.grown hg1)
  have hZ1 := Lib.hid (hZ.out.grown hg1)
  obtain ⟨d0, d1, d2⟩ := hD1.out.three
  clear ck hg1
  go_wp2_with fail
  refine (cc _ HX1.out).mono ?_
  rintro e w2 ⟨a', c', rfl, ho, hg2⟩
  have gA := World.grownBy_alloc w2 (.cells #[.int .i64 N, .string (bs s), .slice a' xs.length c'] 32) none
  have g12 := grownBy_trans hg2 gA
  have G12 := Lib.hid (grownBy_trans G1.out g12)
  have hD2 := Lib.hid (hD1.out.grown g12)
  have hZ2 := Lib.hid (hZ1.out.grown g12)
  have hS2 := Lib.hid (CellsAt.new w2 #[.int .i64 N, .string (bs s), .slice a' xs.length c'] 32)
  have HO := Lib.hid ((ho.kept gA).l.mono G1.out.size)
  have HB := Lib.hid ho.bare
  have hb2 : Hid (w.heap.size + 2 ≤ w2.heap.size) := Lib.hid (by
    have := hZ1.out.lt; have := hg2.size; omega)
  clear cc ho hg2 gA g12 d0 d1 d2
  go_wp2_with fail
  generalize w2.alloc (.cells #[.int .i64 N, .string (bs s), .slice a' xs.length c'] 32) = W2 at *
  generalize w2.heap.size = sb at *
  refine (cr _).mono ?_
  rintro e w3 ⟨rfl, hg3⟩
  have gA3 := grownBy_trans hg3 (World.grownBy_alloc w3 (.cells #[.int .i64 0, .int .i64 0, .string ⟨#[]⟩] 40) none)
  have G3 := Lib.hid (grownBy_trans G12.out gA3)
  have hD3 := Lib.hid (hD2.out.grown gA3)
  have hZ3 := Lib.hid (hZ2.out.grown gA3)
  have hS3 := Lib.hid (hS2.out.grown gA3)
  have HO3 := Lib.hid (HO.out.kept gA3)
  obtain ⟨d0, d1, d2⟩ := hD3.out.three
  obtain ⟨s0, s1, s2⟩ := hS3.out.three
  obtain ⟨⟨y0, y1, y2⟩, v0, v1, v2⟩ := dk_facts hZ3.out
  clear cr hg3 gA3
  go_wp2_with fail
  generalize w3.alloc (.cells #[.int .i64 0, .int .i64 0, .string ⟨#[]⟩] 40) = W3 at *
  refine (cs _).mono ?_
  rintro e w4 ⟨aw, cw, rfl, hT, hg4⟩
  obtain ⟨g0, rfl, hT⟩ := hT
  rw [hc] at hT
  have t0 := hT 0 (by simp)
  have t1 := hT 1 (by simp)
  change w4.cell? ⟨g0, 0, none⟩ = some (.string (bs f)) at t0
  change w4.cell? ⟨g0, 1, none⟩ = some (.string (bs x)) at t1
  clear hT
  have hZ4 := Lib.hid (hZ3.out.grown hg4)
  have hS4 := Lib.hid (hS3.out.grown hg4)
  have G4 := Lib.hid (grownBy_trans G3.out hg4)
  have HO4 := Lib.hid (HO3.out.kept hg4)
  obtain ⟨s0n, s1n, s2n⟩ := hS4.out.three
  obtain ⟨⟨y0n, y1n, y2n⟩, v0n, v1n, v2n⟩ := dk_facts hZ4.out
  clear cs hg4 hZ3 hS3 G3 HO3 s0 s1 s2 y0 y1 y2 v0 v1 v2
  have m0 : ∀ o, (w4.alloc o).cell? ⟨sb, 0, none⟩ = some (.int .i64 N) := fun o => (hS4.out.grown (World.grownBy_alloc w4 o none)).three.1
  have m1 : ∀ o, (w4.alloc o).cell? ⟨sb, 1, none⟩ = some (.string (bs s)) := fun o => (hS4.out.grown (World.grownBy_alloc w4 o none)).three.2.1
  have m2 : ∀ o, (w4.alloc o).cell? ⟨sb, 2, none⟩ = some (.slice a' xs.length c') := fun o => (hS4.out.grown (World.grownBy_alloc w4 o none)).three.2.2
  have X0 := t1
  generalize bs f = F at *
  generalize bs x = X at *
  clear hc X0
  go_wp2_with (first | (go_at_call 74; (with_reducible refine (co _).mono ?_); rintro e wf ⟨rfl, rfl⟩))
  have G3 := G4
  go_region_with (first | (go_at_call 75; (first | (with_reducible refine (cf _ _ ((strs1 w4 X).grown (grownBy_drew (grownBy_refl _ _)))).mono ?_) | (with_reducible refine (cf _ _ (strs1 w4.drew X)).mono ?_)); rintro e wn ⟨rfl, gn⟩; have GN := Lib.hid (show w4.grownBy wn none by first | exact grownBy_trans (World.grownBy_alloc w4 _ none) (drew_grown gn) | exact drew_grown (grownBy_trans (World.grownBy_alloc _ _ none) gn)); have HZn := Lib.hid (hZ4.out.grown GN.out); obtain ⟨s0n, s1n, s2n⟩ := (hS4.out.grown GN.out).three; obtain ⟨⟨y0, y1, y2⟩, v0, v1, v2⟩ := dk_facts HZn.out; have HO := Lib.hid (HO4.out.kept GN.out); clear gn) | (go_at_call 63; (with_reducible refine (cy _).mono ?_); rintro e _ ⟨rfl, rfl⟩))
  all_goals go_wp2_with fail
  all_goals
    have P : LinePost (((N, s), xs), (yesA B)) w (.returned (.tuple #[.agg #[.int .i64 N, .string (bs s), .slice a' xs.length c'], .string (yesA B)])) (((wn.setCell ⟨w.heap.size + 1, 0, none⟩ (.int .i64 N)).setCell ⟨w.heap.size + 1, 1, none⟩ (.string (bs s))).setCell ⟨w.heap.size + 1, 2, none⟩ (.slice a' xs.length c')) :=
      ⟨a', c', rfl, HO.out.put3 ⟨_, HZn.out⟩ _ _ _, HB.out, put3_grown _ (grownBy_trans G3.out GN.out) (by omega) _ _ _⟩
    exact bodyPost_ret (v := .tuple #[.agg #[.int .i64 N, .string (bs s), .slice a' xs.length c'], .string (yesA B)]) (resDkB (b := .string (yesA B)) rfl _ rfl rfl (HZn.out.put3 (.int .i64 N) (.string (bs s)) (.slice a' xs.length c'))) rfl P

set_option maxRecDepth 8000 in
set_option maxHeartbeats 2000000 in
theorem sdl_four (N : Nat) (s : List UInt8) (xs : List Ld) (l : List UInt8) (hn : rdD l = none) (hq : l ∉ askW) (hl : l.length ≤ 2097152) (p x y z : List UInt8) (hp : p ≠ [97, 116]) (hc : cutL 32 l = [p, x, y, z]) (a : Option Addr) (cap : Nat) (w : World) (hN : NowOk N s) (h : LdsAt w a xs) (h0 : a = none → cap = 0) (hd : dkB (((N : Int), s), xs) = true) :
    Calls Tryz.prog 21 #[.agg #[.int .i64 N, .string (bs s), .slice a xs.length cap], .string (bs l)] w (LinePost (((N, s), xs), ansO N s l) w) := by
  have g2 : w.grownBy ((w.alloc (.cells #[.int .i64 N, .string (bs s), .slice a xs.length cap] 32)).alloc (.cells #[.int .i64 0, .string ⟨#[]⟩, .slice none 0 0] 32)) none := grownBy_trans (World.grownBy_alloc w _ none) (World.grownBy_alloc _ _ none)
  have hZ := Lib.hid (CellsAt.second w (.cells #[.int .i64 N, .string (bs s), .slice a xs.length cap] 32) #[.int .i64 0, .string ⟨#[]⟩, .slice none 0 0] 32)
  have hD := Lib.hid (CellsAt.first w (.cells #[.int .i64 0, .string ⟨#[]⟩, .slice none 0 0] 32) #[.int .i64 N, .string (bs s), .slice a xs.length cap] 32)
  have ck := sdesk_is ((N, s), xs) a cap _ (h.grown g2)
  rw [hd] at ck
  unfold dkV at ck
  have cr := fun w => srd_v l _ (rdV_none hn) w hl
  unfold ddV nilDd at cr
  rw [show bs ([] : List UInt8) = ⟨#[]⟩ from rfl] at cr
  have hx8 : xs.length ≤ 9 := by have := (dkB_of hd).2.2; change xs.length ≤ 8 at this; omega
  have cc : ∀ W, LdsAt W a xs → Calls Tryz.prog 60 #[.agg #[.int .i64 N, .string (bs s), .slice a xs.length cap]] W fun e w' => ∃ a' cap', e = .returned (.agg #[.int .i64 N, .string (bs s), .slice a' xs.length cap']) ∧ Own2 w' W.heap.size a' cap' xs ∧ W.grownBy w' none := fun W hW => scopy_any ((N, s), xs) a cap W hW h0 hx8
  have HX := Lib.hid (h.grown g2)
  have G2 := Lib.hid g2
  have HN := Lib.hid hN
  obtain ⟨U, hU⟩ : ∃ U, U = bs l := ⟨_, rfl⟩
  rw [← hU] at cr ⊢
  have u0 : (U.toList == [115, 116, 101, 112, 115]) = false := by rw [hU, toL_bs]; exact beq_false_of_ne fun e => hq (by rw [e]; decide)
  have u1 : (U.toList == [116, 101, 120, 116]) = false := by rw [hU, toL_bs]; exact beq_false_of_ne fun e => hq (by rw [e]; decide)
  have u2 : (U.toList == [97, 108, 119, 97, 121, 115]) = false := by rw [hU, toL_bs]; exact beq_false_of_ne fun e => hq (by rw [e]; decide)
  have u3 : (U.toList == [108, 101, 97, 115, 116]) = false := by rw [hU, toL_bs]; exact beq_false_of_ne fun e => hq (by rw [e]; decide)
  have u4 : (U.toList == [97, 103, 97, 105, 110, 115, 116]) = false := by rw [hU, toL_bs]; exact beq_false_of_ne fun e => hq (by rw [e]; decide)
  have u5 : (U.toList == [99, 104, 97, 105, 110, 115]) = false := by rw [hU, toL_bs]; exact beq_false_of_ne fun e => hq (by rw [e]; decide)
  have u6 : (U.toList == [108, 101, 116, 116, 101, 114, 115]) = false := by rw [hU, toL_bs]; exact beq_false_of_ne fun e => hq (by rw [e]; decide)
  have u7 : (U.toList == [109, 111, 118, 101, 115]) = false := by rw [hU, toL_bs]; exact beq_false_of_ne fun e => hq (by rw [e]; decide)
  have u8 : (U.toList == [114, 111, 119]) = false := by rw [hU, toL_bs]; exact beq_false_of_ne fun e => hq (by rw [e]; decide)
  rw [show ansO N s l = whatA from by unfold ansO; rw [hc]; exact if_neg hp]
  unfold whatA
  have cs : ∀ W, Calls Tryz.prog 73 #[.string U, .int .u8 32] W (ScPost 32 l W) := fun W => by rw [hU]; exact sct_any l hl W
  unfold ScPost at cs
  have l4 : (cutL 32 l).length = 4 := by rw [hc]; rfl
  rw [l4] at cs
  have up : ((bs p).toList == [97, 116]) = false := by rw [toL_bs]; exact beq_false_of_ne hp
  clear h g2 hd hx8 hU hq hn hl l4 hp
  go_enter Tryz.func21, Tryz.ntmps21
  go_wp2_with fail
  generalize (w.alloc (.cells #[.int .i64 N, .string (bs s), .slice a xs.length cap] 32)).alloc (.cells #[.int .i64 0, .string ⟨#[]⟩, .slice none 0 0] 32) = W at *
  refine ck.mono ?_
  rintro e w1 ⟨rfl, hg1⟩
  have G1 := Lib.hid (grownBy_trans G2.out hg1)
  have HX1 := Lib.hid (HX.out.grown hg1)
  have hD1 := Lib.hid (hD.out.grown hg1)
  have hZ1 := Lib.hid (hZ.out.grown hg1)
  obtain ⟨d0, d1, d2⟩ := hD1.out.three
  clear ck hg1
  go_wp2_with fail
  refine (cc _ HX1.out).mono ?_
  rintro e w2 ⟨a', c', rfl, ho, hg2⟩
  have gA := World.grownBy_alloc w2 (.cells #[.int .i64 N, .string (bs s), .slice a' xs.length c'] 32) none
  have g12 := grownBy_trans hg2 gA
  have G12 := Lib.hid (grownBy_trans G1.out g12)
  have hD2 := Lib.hid (hD1.out.grown g12)
  have hZ2 := Lib.hid (hZ1.out.grown g12)
  have hS2 := Lib.hid (CellsAt.new w2 #[.int .i64 N, .string (bs s), .slice a' xs.length c'] 32)
  have HO := Lib.hid ((ho.kept gA).l.mono G1.out.size)
  have HB := Lib.hid ho.bare
  have hb2 : Hid (w.heap.size + 2 ≤ w2.heap.size) := Lib.hid (by
    have := hZ1.out.lt; have := hg2.size; omega)
  clear cc ho hg2 gA g12 d0 d1 d2
  go_wp2_with fail
  generalize w2.alloc (.cells #[.int .i64 N, .string (bs s), .slice a' xs.length c'] 32) = W2 at *
  generalize w2.heap.size = sb at *
  refine (cr _).mono ?_
  rintro e w3 ⟨rfl, hg3⟩
  have gA3 := grownBy_trans hg3 (World.grownBy_alloc w3 (.cells #[.int .i64 0, .int .i64 0, .string ⟨#[]⟩] 40) none)
  have G3 := Lib.hid (grownBy_trans G12.out gA3)
  have hD3 := Lib.hid (hD2.out.grown gA3)
  have hZ3 := Lib.hid (hZ2.out.grown gA3)
  have hS3 := Lib.hid (hS2.out.grown gA3)
  have HO3 := Lib.hid (HO.out.kept gA3)
  obtain ⟨d0, d1, d2⟩ := hD3.out.three
  obtain ⟨s0, s1, s2⟩ := hS3.out.three
  obtain ⟨⟨y0, y1, y2⟩, v0, v1, v2⟩ := dk_facts hZ3.out
  clear cr hg3 gA3
  go_wp2_with fail
  generalize w3.alloc (.cells #[.int .i64 0, .int .i64 0, .string ⟨#[]⟩] 40) = W3 at *
  refine (cs _).mono ?_
  rintro e w4 ⟨aw, cw, rfl, hT, hg4⟩
  obtain ⟨g0, rfl, hT⟩ := hT
  rw [hc] at hT
  have t0 := hT 0 (by simp)
  have t1 := hT 1 (by simp)
  have t2 := hT 2 (by simp)
  have t3 := hT 3 (by simp)
  change w4.cell? ⟨g0, 0, none⟩ = some (.string (bs p)) at t0
  change w4.cell? ⟨g0, 1, none⟩ = some (.string (bs x)) at t1
  change w4.cell? ⟨g0, 2, none⟩ = some (.string (bs y)) at t2
  change w4.cell? ⟨g0, 3, none⟩ = some (.string (bs z)) at t3
  clear hT
  have hZ4 := Lib.hid (hZ3.out.grown hg4)
  have hS4 := Lib.hid (hS3.out.grown hg4)
  have G4 := Lib.hid (grownBy_trans G3.out hg4)
  have HO4 := Lib.hid (HO3.out.kept hg4)
  obtain ⟨s0n, s1n, s2n⟩ := hS4.out.three
  obtain ⟨⟨y0n, y1n, y2n⟩, v0n, v1n, v2n⟩ := dk_facts hZ4.out
  clear cs hg4 hZ3 hS3 G3 HO3 s0 s1 s2 y0 y1 y2 v0 v1 v2
  generalize bs p = F at *
  generalize bs x = X at *
  generalize bs y = Y at *
  generalize bs z = Z at *
  clear hc
  go_wp2_with fail
  have HZn := hZ4
  have HO := HO4
  have G3 := G4
  have GN : Hid (w4.grownBy w4 none) := Lib.hid (grownBy_refl _ _)
  have P : LinePost (((N, s), xs), ⟨#[119, 104, 97, 116]⟩) w (.returned (.tuple #[.agg #[.int .i64 N, .string (bs s), .slice a' xs.length c'], .string ⟨#[119, 104, 97, 116]⟩])) (((w4.setCell ⟨w.heap.size + 1, 0, none⟩ (.int .i64 N)).setCell ⟨w.heap.size + 1, 1, none⟩ (.string (bs s))).setCell ⟨w.heap.size + 1, 2, none⟩ (.slice a' xs.length c')) :=
    ⟨a', c', rfl, HO.out.put3 ⟨_, HZn.out⟩ _ _ _, HB.out, put3_grown _ (grownBy_trans G3.out GN.out) (by omega) _ _ _⟩
  exact bodyPost_ret (v := .tuple #[.agg #[.int .i64 N, .string (bs s), .slice a' xs.length c'], .string ⟨#[119, 104, 97, 116]⟩]) (resDkB (b := .string ⟨#[119, 104, 97, 116]⟩) rfl _ rfl rfl (HZn.out.put3 (.int .i64 N) (.string (bs s)) (.slice a' xs.length c'))) rfl P
theorem quiet_of {f : Nat} {args : Array Value} {v : Value} {w : World} {m : Nat} (h : Calls Tryz.prog f args (w.drewN m) fun e w' => e = .returned v ∧ w.drewN m = w') : Calls Tryz.prog f args (w.drewN m) fun e w'' => e = .returned v ∧ ∃ m, w'' = w.drewN m := Calls.quiet_of_same (h.mono fun _ _ p => ⟨p.1, p.2.symm⟩)
theorem cutG_len (c : UInt8) : ∀ (a b t : List UInt8), t ∈ cutG c a b → t.length ≤ a.length + b.length
  | a, [], t, h => by simp [cutG] at h; subst h; simp
  | a, d :: b, t, h => by
    unfold cutG at h
    split at h
    · rcases List.mem_cons.1 h with rfl | h
      · simp
      · have := cutG_len c [] b t h; simp at this ⊢; omega
    · have := cutG_len c (a ++ [d]) b t h; simp at this ⊢; omega
theorem cutw_len {l t : List UInt8} {L : List (List UInt8)} (h : cutL 32 l = L) (ht : t ∈ L) : t.length ≤ l.length := by
  subst h
  have := cutG_len 32 [] l t ht
  simpa using this

set_option maxRecDepth 8000 in
set_option maxHeartbeats 2000000 in
theorem sdl_at (N : Nat) (s : List UInt8) (xs : List Ld) (l : List UInt8) (hn : rdD l = none) (hq : l ∉ askW) (hl : l.length ≤ 2097152) (p x y z : List UInt8) (hp : p = [97, 116]) (hc : cutL 32 l = [p, x, y, z]) (a : Option Addr) (cap : Nat) (w : World) (hN : NowOk N s) (h : LdsAt w a xs) (h0 : a = none → cap = 0) (hd : dkB (((N : Int), s), xs) = true) :
    Calls Tryz.prog 21 #[.agg #[.int .i64 N, .string (bs s), .slice a xs.length cap], .string (bs l)] w (LinePost (((N, s), xs), ansO N s l) w) := by
  have g2 : w.grownBy ((w.alloc (.cells #[.int .i64 N, .string (bs s), .slice a xs.length cap] 32)).alloc (.cells #[.int .i64 0, .string ⟨#[]⟩, .slice none 0 0] 32)) none := grownBy_trans (World.grownBy_alloc w _ none) (World.grownBy_alloc _ _ none)
  have hZ := Lib.hid (CellsAt.second w (.cells #[.int .i64 N, .string (bs s), .slice a xs.length cap] 32) #[.int .i64 0, .string ⟨#[]⟩, .slice none 0 0] 32)
  have hD := Lib.hid (CellsAt.first w (.cells #[.int .i64 0, .string ⟨#[]⟩, .slice none 0 0] 32) #[.int .i64 N, .string (bs s), .slice a xs.length cap] 32)
  have ck := sdesk_is ((N, s), xs) a cap _ (h.grown g2)
  rw [hd] at ck
  unfold dkV at ck
  have cr := fun w => srd_v l _ (rdV_none hn) w hl
  unfold ddV nilDd at cr
  rw [show bs ([] : List UInt8) = ⟨#[]⟩ from rfl] at cr
  have hx8 : xs.length ≤ 9 := by have := (dkB_of hd).2.2; change xs.length ≤ 8 at this; omega
  have cc : ∀ W, LdsAt W a xs → Calls Tryz.prog 60 #[.agg #[.int .i64 N, .string (bs s), .slice a xs.length cap]] W fun e w' => ∃ a' cap', e = .returned (.agg #[.int .i64 N, .string (bs s), .slice a' xs.length cap']) ∧ Own2 w' W.heap.size a' cap' xs ∧ W.grownBy w' none := fun W hW => scopy_any ((N, s), xs) a cap W hW h0 hx8
  have HX := Lib.hid (h.grown g2)
  have G2 := Lib.hid g2
  have HN := Lib.hid hN
  obtain ⟨U, hU⟩ : ∃ U, U = bs l := ⟨_, rfl⟩
  rw [← hU] at cr ⊢
  have u0 : (U.toList == [115, 116, 101, 112, 115]) = false := by rw [hU, toL_bs]; exact beq_false_of_ne fun e => hq (by rw [e]; decide)
  have u1 : (U.toList == [116, 101, 120, 116]) = false := by rw [hU, toL_bs]; exact beq_false_of_ne fun e => hq (by rw [e]; decide)
  have u2 : (U.toList == [97, 108, 119, 97, 121, 115]) = false := by rw [hU, toL_bs]; exact beq_false_of_ne fun e => hq (by rw [e]; decide)
  have u3 : (U.toList == [108, 101, 97, 115, 116]) = false := by rw [hU, toL_bs]; exact beq_false_of_ne fun e => hq (by rw [e]; decide)
  have u4 : (U.toList == [97, 103, 97, 105, 110, 115, 116]) = false := by rw [hU, toL_bs]; exact beq_false_of_ne fun e => hq (by rw [e]; decide)
  have u5 : (U.toList == [99, 104, 97, 105, 110, 115]) = false := by rw [hU, toL_bs]; exact beq_false_of_ne fun e => hq (by rw [e]; decide)
  have u6 : (U.toList == [108, 101, 116, 116, 101, 114, 115]) = false := by rw [hU, toL_bs]; exact beq_false_of_ne fun e => hq (by rw [e]; decide)
  have u7 : (U.toList == [109, 111, 118, 101, 115]) = false := by rw [hU, toL_bs]; exact beq_false_of_ne fun e => hq (by rw [e]; decide)
  have u8 : (U.toList == [114, 111, 119]) = false := by rw [hU, toL_bs]; exact beq_false_of_ne fun e => hq (by rw [e]; decide)
  obtain ⟨Y, hY⟩ : ∃ Y, Y = ansO N s l := ⟨_, rfl⟩
  have hYA : Y = ansA N s x y z := by rw [hY]; unfold ansO; rw [hc]; exact if_pos hp
  rw [← hY]
  clear hY
  obtain ⟨D1, hx⟩ : ∃ D, D = digI x := ⟨_, rfl⟩
  obtain ⟨D2, hy⟩ : ∃ D, D = digI y := ⟨_, rfl⟩
  obtain ⟨D3, hz⟩ : ∃ D, D = digI z := ⟨_, rfl⟩
  obtain ⟨V, hV⟩ : ∃ V, V = valI N s D1 D2 D3 := ⟨_, rfl⟩
  unfold ansA at hYA
  rw [← hx, ← hy, ← hz, ← hV] at hYA
  have hlx : x.length ≤ l.length ∧ y.length ≤ l.length ∧ z.length ≤ l.length := ⟨cutw_len hc (by simp), cutw_len hc (by simp), cutw_len hc (by simp)⟩
  have cs : ∀ W, Calls Tryz.prog 73 #[.string U, .int .u8 32] W (ScPost 32 l W) := fun W => by rw [hU]; exact sct_any l hl W
  unfold ScPost at cs
  have l4 : (cutL 32 l).length = 4 := by rw [hc]; rfl
  rw [l4] at cs
  have up : ((bs p).toList == [97, 116]) = true := by rw [toL_bs, hp]; rfl
  have cx : ∀ W, Calls Tryz.prog 76 #[.string (bs x)] W fun e w' => e = .returned (.int .i64 D1) ∧ W = w' := fun W => by rw [hx]; exact sdig_any x (by omega) W
  have cy : ∀ W, Calls Tryz.prog 76 #[.string (bs y)] W fun e w' => e = .returned (.int .i64 D2) ∧ W = w' := fun W => by rw [hy]; exact sdig_any y (by omega) W
  have cz : ∀ W, Calls Tryz.prog 76 #[.string (bs z)] W fun e w' => e = .returned (.int .i64 D3) ∧ W = w' := fun W => by rw [hz]; exact sdig_any z (by omega) W
  have cv : ∀ W, Calls Tryz.prog 77 #[.int .i64 N, .string (bs s), .int .i64 D1, .int .i64 D2, .int .i64 D3] W fun e w' => e = .returned (.int .i64 V) ∧ W = w' := fun W => by rw [hV]; exact svalue_any N (bs s) D1 D2 D3 W
  have ct : ∀ W, Calls Tryz.prog 65 #[.int .i64 N, .int .i64 V] W fun e w' => e = .returned (.string (vtext N V)) ∧ W.grownBy w' none := fun W => stext_any N V W
  have HA1 : Hid (D1 < 0 ∨ D2 < 0 ∨ D3 < 0 → Y = whatA) := Lib.hid fun k => by rw [hYA, if_pos k]
  have HA2 : Hid (¬ D1 < 0 → ¬ D2 < 0 → ¬ D3 < 0 → V < 0 → Y = noneA) := Lib.hid fun k1 k2 k3 k => by rw [hYA, if_neg (by omega), if_pos k]
  have HA3 : Hid (¬ D1 < 0 → ¬ D2 < 0 → ¬ D3 < 0 → ¬ V < 0 → Y = vtext N V) := Lib.hid fun k1 k2 k3 k => by rw [hYA, if_neg (by omega), if_neg k]
  clear hYA hx hy hz hV hlx
  generalize vtext N V = TX at *
  clear h g2 hd hx8 hU hq hn hl l4 hp
  go_enter Tryz.func21, Tryz.ntmps21
  go_wp2_with fail
  generalize (w.alloc (.cells #[.int .i64 N, .string (bs s), .slice a xs.length cap] 32)).alloc (.cells #[.int .i64 0, .string ⟨#[]⟩, .slice none 0 0] 32) = W at *
  refine ck.mono ?_
  rintro e w1 ⟨rfl, hg1⟩
  have G1 := Lib.hid (grownBy_trans G2.out hg1)
  have HX1 := Lib.hid (HX.out.grown hg1)
  have hD1 := Lib.hid (hD.out.grown hg1)
  have hZ1 := Lib.hid (hZ.out.grown hg1)
  obtain ⟨d0, d1, d2⟩ := hD1.out.three
  clear ck hg1
  go_wp2_with fail
  refine (cc _ HX1.out).mono ?_
  rintro e w2 ⟨a', c', rfl, ho, hg2⟩
  have gA := World.grownBy_alloc w2 (.cells #[.int .i64 N, .string (bs s), .slice a' xs.length c'] 32) none
  have g12 := grownBy_trans hg2 gA
  have G12 := Lib.hid (grownBy_trans G1.out g12)
  have hD2 := Lib.hid (hD1.out.grown g12)
  have hZ2 := Lib.hid (hZ1.out.grown g12)
  have hS2 := Lib.hid (CellsAt.new w2 #[.int .i64 N, .string (bs s), .slice a' xs.length c'] 32)
  have HO := Lib.hid ((ho.kept gA).l.mono G1.out.size)
  have HB := Lib.hid ho.bare
  have hb2 : Hid (w.heap.size + 2 ≤ w2.heap.size) := Lib.hid (by
    have := hZ1.out.lt; have := hg2.size; omega)
  clear cc ho hg2 gA g12 d0 d1 d2
  go_wp2_with fail
  generalize w2.alloc (.cells #[.int .i64 N, .string (bs s), .slice a' xs.length c'] 32) = W2 at *
  generalize w2.heap.size = sb at *
  refine (cr _).mono ?_
  rintro e w3 ⟨rfl, hg3⟩
  have gA3 := grownBy_trans hg3 (World.grownBy_alloc w3 (.cells #[.int .i64 0, .int .i64 0, .string ⟨#[]⟩] 40) none)
  have G3 := Lib.hid (grownBy_trans G12.out gA3)
  have hD3 := Lib.hid (hD2.out.grown gA3)
  have hZ3 := Lib.hid (hZ2.out.grown gA3)
  have hS3 := Lib.hid (hS2.out.grown gA3)
  have HO3 := Lib.hid (HO.out.kept gA3)
  obtain ⟨d0, d1, d2⟩ := hD3.out.three
  obtain ⟨s0, s1, s2⟩ := hS3.out.three
  obtain ⟨⟨y0, y1, y2⟩, v0, v1, v2⟩ := dk_facts hZ3.out
  clear cr hg3 gA3
  go_wp2_with fail
  generalize w3.alloc (.cells #[.int .i64 0, .int .i64 0, .string ⟨#[]⟩] 40) = W3 at *
  refine (cs _).mono ?_
  rintro e w4 ⟨aw, cw, rfl, hT, hg4⟩
  obtain ⟨g0, rfl, hT⟩ := hT
  rw [hc] at hT
  have t0 := hT 0 (by simp)
  have t1 := hT 1 (by simp)
  have t2 := hT 2 (by simp)
  have t3 := hT 3 (by simp)
  change w4.cell? ⟨g0, 0, none⟩ = some (.string (bs p)) at t0
  change w4.cell? ⟨g0, 1, none⟩ = some (.string (bs x)) at t1
  change w4.cell? ⟨g0, 2, none⟩ = some (.string (bs y)) at t2
  change w4.cell? ⟨g0, 3, none⟩ = some (.string (bs z)) at t3
  clear hT
  have hZ4 := Lib.hid (hZ3.out.grown hg4)
  have hS4 := Lib.hid (hS3.out.grown hg4)
  have G4 := Lib.hid (grownBy_trans G3.out hg4)
  have HO4 := Lib.hid (HO3.out.kept hg4)
  obtain ⟨s0n, s1n, s2n⟩ := hS4.out.three
  obtain ⟨⟨y0n, y1n, y2n⟩, v0n, v1n, v2n⟩ := dk_facts hZ4.out
  clear cs hg4 hZ3 hS3 G3 HO3 s0 s1 s2 y0 y1 y2 v0 v1 v2
  generalize bs p = F at *
  generalize bs x = X1 at *
  generalize bs y = X2 at *
  generalize bs z = X3 at *
  clear hc
  go_wp2_with fail
  go_loopw [18] (fun kv wr => ((kv = .int .i64 1) ∨ (kv = .int .i64 2 ∧ ¬ D1 < 0) ∨ (kv = .int .i64 3 ∧ ¬ D1 < 0 ∧ ¬ D2 < 0) ∨ (kv = .int .i64 4 ∧ ¬ D1 < 0 ∧ ¬ D2 < 0 ∧ ¬ D3 < 0)) ∧ w4 = wr) (fun kv _ => 4 - (intOf kv).toNat)
  case atStart => exact ⟨.inl rfl, rfl⟩
  case round =>
    obtain ⟨hk, rfl⟩ := hrel
    rcases hk with rfl | ⟨rfl, k1⟩ | ⟨rfl, k1, k2⟩ | ⟨rfl, k1, k2, k3⟩
    · by_cases k1 : D1 < 0
      · obtain rfl := HA1.out (.inl k1)
        unfold whatA at *
        go_wp2_with (first | (go_at_call 76; (with_reducible refine (cx _).mono ?_); rintro e _ ⟨rfl, rfl⟩))
        have HZn := hZ4
        have HO := HO4
        have G3 := G4
        have GN : Hid (w4.grownBy w4 none) := Lib.hid (grownBy_refl _ _)
        have P : LinePost (((N, s), xs), ⟨#[119, 104, 97, 116]⟩) w (.returned (.tuple #[.agg #[.int .i64 N, .string (bs s), .slice a' xs.length c'], .string ⟨#[119, 104, 97, 116]⟩])) (((w4.setCell ⟨w.heap.size + 1, 0, none⟩ (.int .i64 N)).setCell ⟨w.heap.size + 1, 1, none⟩ (.string (bs s))).setCell ⟨w.heap.size + 1, 2, none⟩ (.slice a' xs.length c')) :=
          ⟨a', c', rfl, HO.out.put3 ⟨_, HZn.out⟩ _ _ _, HB.out, put3_grown _ (grownBy_trans G3.out GN.out) (by omega) _ _ _⟩
        exact bodyPost_ret (v := .tuple #[.agg #[.int .i64 N, .string (bs s), .slice a' xs.length c'], .string ⟨#[119, 104, 97, 116]⟩]) (resDkB (b := .string ⟨#[119, 104, 97, 116]⟩) rfl _ rfl rfl (HZn.out.put3 (.int .i64 N) (.string (bs s)) (.slice a' xs.length c'))) rfl P
      · go_wp2_with (first | (go_at_call 76; (with_reducible refine (cx _).mono ?_); rintro e _ ⟨rfl, rfl⟩))
        go_roundw
        case rel => exact ⟨.inr (.inl ⟨rfl, by omega⟩), by trivial⟩
        case measure => simp [intOf]
    · by_cases k2 : D2 < 0
      · obtain rfl := HA1.out (.inr (.inl k2))
        unfold whatA at *
        go_wp2_with (first | (go_at_call 76; (with_reducible refine (cy _).mono ?_); rintro e _ ⟨rfl, rfl⟩))
        have HZn := hZ4
        have HO := HO4
        have G3 := G4
        have GN : Hid (w4.grownBy w4 none) := Lib.hid (grownBy_refl _ _)
        have P : LinePost (((N, s), xs), ⟨#[119, 104, 97, 116]⟩) w (.returned (.tuple #[.agg #[.int .i64 N, .string (bs s), .slice a' xs.length c'], .string ⟨#[119, 104, 97, 116]⟩])) (((w4.setCell ⟨w.heap.size + 1, 0, none⟩ (.int .i64 N)).setCell ⟨w.heap.size + 1, 1, none⟩ (.string (bs s))).setCell ⟨w.heap.size + 1, 2, none⟩ (.slice a' xs.length c')) :=
          ⟨a', c', rfl, HO.out.put3 ⟨_, HZn.out⟩ _ _ _, HB.out, put3_grown _ (grownBy_trans G3.out GN.out) (by omega) _ _ _⟩
        exact bodyPost_ret (v := .tuple #[.agg #[.int .i64 N, .string (bs s), .slice a' xs.length c'], .string ⟨#[119, 104, 97, 116]⟩]) (resDkB (b := .string ⟨#[119, 104, 97, 116]⟩) rfl _ rfl rfl (HZn.out.put3 (.int .i64 N) (.string (bs s)) (.slice a' xs.length c'))) rfl P
      · go_wp2_with (first | (go_at_call 76; (with_reducible refine (cy _).mono ?_); rintro e _ ⟨rfl, rfl⟩))
        go_roundw
        case rel => exact ⟨.inr (.inr (.inl ⟨rfl, by omega, by omega⟩)), by trivial⟩
        case measure => simp [intOf]
    · by_cases k3 : D3 < 0
      · obtain rfl := HA1.out (.inr (.inr k3))
        unfold whatA at *
        go_wp2_with (first | (go_at_call 76; (with_reducible refine (cz _).mono ?_); rintro e _ ⟨rfl, rfl⟩))
        have HZn := hZ4
        have HO := HO4
        have G3 := G4
        have GN : Hid (w4.grownBy w4 none) := Lib.hid (grownBy_refl _ _)
        have P : LinePost (((N, s), xs), ⟨#[119, 104, 97, 116]⟩) w (.returned (.tuple #[.agg #[.int .i64 N, .string (bs s), .slice a' xs.length c'], .string ⟨#[119, 104, 97, 116]⟩])) (((w4.setCell ⟨w.heap.size + 1, 0, none⟩ (.int .i64 N)).setCell ⟨w.heap.size + 1, 1, none⟩ (.string (bs s))).setCell ⟨w.heap.size + 1, 2, none⟩ (.slice a' xs.length c')) :=
          ⟨a', c', rfl, HO.out.put3 ⟨_, HZn.out⟩ _ _ _, HB.out, put3_grown _ (grownBy_trans G3.out GN.out) (by omega) _ _ _⟩
        exact bodyPost_ret (v := .tuple #[.agg #[.int .i64 N, .string (bs s), .slice a' xs.length c'], .string ⟨#[119, 104, 97, 116]⟩]) (resDkB (b := .string ⟨#[119, 104, 97, 116]⟩) rfl _ rfl rfl (HZn.out.put3 (.int .i64 N) (.string (bs s)) (.slice a' xs.length c'))) rfl P
      · go_wp2_with (first | (go_at_call 76; (with_reducible refine (cz _).mono ?_); rintro e _ ⟨rfl, rfl⟩))
        go_roundw
        case rel => exact ⟨.inr (.inr (.inr ⟨rfl, by omega, by omega, by omega⟩)), by trivial⟩
        case measure => simp [intOf]
    · go_wp2_with fail
      have q1 := fun (W : World) (m : Nat) => quiet_of (cx (W.drewN m))
      have q2 := fun (W : World) (m : Nat) => quiet_of (cy (W.drewN m))
      have q3 := fun (W : World) (m : Nat) => quiet_of (cz (W.drewN m))
      have q4 := fun (W : World) (m : Nat) => quiet_of (cv (W.drewN m))
      clear cx cy cz cv
      go_quiet (first | (go_at_call 77; exact q4 _ _) | (go_at_call 76; first | with_reducible exact q1 _ _ | with_reducible exact q2 _ _ | with_reducible exact q3 _ _))
      have g5 := grownBy_drewN (grownBy_refl w4 none) nq
      generalize w4.drewN nq = W5 at *
      have hZ5 := Lib.hid (hZ4.out.grown g5)
      have hS5 := Lib.hid (hS4.out.grown g5)
      have G5 := Lib.hid (grownBy_trans G4.out g5)
      have HO5 := Lib.hid (HO4.out.kept g5)
      obtain ⟨s0, s1, s2⟩ := hS5.out.three
      obtain ⟨⟨y0, y1, y2⟩, v0, v1, v2⟩ := dk_facts hZ5.out
      clear q1 q2 q3 q4 g5 hZ4 hS4 G4 HO4
      have G3 := G5
      by_cases hv : V < 0
      · obtain rfl := HA2.out (by omega) (by omega) (by omega) (by omega)
        unfold noneA at *
        go_wp2_with fail
        have HZn := hZ5
        have HO := HO5
        have GN : Hid (W5.grownBy W5 none) := Lib.hid (grownBy_refl _ _)
        have P : LinePost (((N, s), xs), ⟨#[110, 111, 110, 101]⟩) w (.returned (.tuple #[.agg #[.int .i64 N, .string (bs s), .slice a' xs.length c'], .string ⟨#[110, 111, 110, 101]⟩])) (((W5.setCell ⟨w.heap.size + 1, 0, none⟩ (.int .i64 N)).setCell ⟨w.heap.size + 1, 1, none⟩ (.string (bs s))).setCell ⟨w.heap.size + 1, 2, none⟩ (.slice a' xs.length c')) :=
          ⟨a', c', rfl, HO.out.put3 ⟨_, HZn.out⟩ _ _ _, HB.out, put3_grown _ (grownBy_trans G3.out GN.out) (by omega) _ _ _⟩
        exact bodyPost_ret (v := .tuple #[.agg #[.int .i64 N, .string (bs s), .slice a' xs.length c'], .string ⟨#[110, 111, 110, 101]⟩]) (resDkB (b := .string ⟨#[110, 111, 110, 101]⟩) rfl _ rfl rfl (HZn.out.put3 (.int .i64 N) (.string (bs s)) (.slice a' xs.length c'))) rfl P
      · obtain rfl := HA3.out (by omega) (by omega) (by omega) (by omega)
        have hZ3 := hZ5
        have hS3 := hS5
        have HO3 := HO5
        go_wp2_with fail
        go_region_with (first | (go_at_call 65; (with_reducible refine (ct _).mono ?_); rintro e wn ⟨rfl, gn⟩; have GN := Lib.hid (drew_grown gn); have HZn := Lib.hid (hZ3.out.grown GN.out); obtain ⟨s0n, s1n, s2n⟩ := (hS3.out.grown GN.out).three; obtain ⟨⟨y0, y1, y2⟩, v0, v1, v2⟩ := dk_facts HZn.out; have HO := Lib.hid (HO3.out.kept GN.out); clear gn))
        all_goals go_wp2_with fail
        all_goals
          have P : LinePost (((N, s), xs), Y) w (.returned (.tuple #[.agg #[.int .i64 N, .string (bs s), .slice a' xs.length c'], .string Y])) (((wn.setCell ⟨w.heap.size + 1, 0, none⟩ (.int .i64 N)).setCell ⟨w.heap.size + 1, 1, none⟩ (.string (bs s))).setCell ⟨w.heap.size + 1, 2, none⟩ (.slice a' xs.length c')) :=
            ⟨a', c', rfl, HO.out.put3 ⟨_, HZn.out⟩ _ _ _, HB.out, put3_grown _ (grownBy_trans G3.out GN.out) (by omega) _ _ _⟩
          exact bodyPost_ret (v := .tuple #[.agg #[.int .i64 N, .string (bs s), .slice a' xs.length c'], .string Y]) (resDkB (b := .string Y) rfl _ rfl rfl (HZn.out.put3 (.int .i64 N) (.string (bs s)) (.slice a' xs.length c'))) rfl P

end Go.Proofs.YtlnffpofbfigaaaGreatDoor

/-
  The model's DeskLine at a deed, at no desk, and so at any line.
-/
namespace Go.Proofs.YtlnffpofbfigaaaGreatDoor
open Go.RowKit

set_option maxRecDepth 8000 in
set_option maxHeartbeats 2000000 in
theorem sdl_deed (N : Int) (s : List UInt8) (xs : List Ld) (D : Dd) (l : List UInt8) (a : Option Addr) (cap : Nat) (w : World) (hn : rdD l = some D) (hl : l.length ≤ 2097152) (h : LdsAt w a xs) (h0 : a = none → cap = 0) (hd : dkB ((N, s), xs) = true) :
    Calls Tryz.prog 21 #[.agg #[.int .i64 N, .string (bs s), .slice a xs.length cap], .string (bs l)] w (LnPost (doR ((N, s), xs) D) w) := by
  have g2 : w.grownBy ((w.alloc (.cells #[.int .i64 N, .string (bs s), .slice a xs.length cap] 32)).alloc (.cells #[.int .i64 0, .string ⟨#[]⟩, .slice none 0 0] 32)) none := grownBy_trans (World.grownBy_alloc w _ none) (World.grownBy_alloc _ _ none)
  have hZ := Lib.hid (CellsAt.second w (.cells #[.int .i64 N, .string (bs s), .slice a xs.length cap] 32) #[.int .i64 0, .string ⟨#[]⟩, .slice none 0 0] 32)
  have hD := Lib.hid (CellsAt.first w (.cells #[.int .i64 0, .string ⟨#[]⟩, .slice none 0 0] 32) #[.int .i64 N, .string (bs s), .slice a xs.length cap] 32)
  have ck := sdesk_is ((N, s), xs) a cap _ (h.grown g2)
  rw [hd] at ck
  unfold dkV at ck
  have cr := fun w => srd_v l _ (rdV_some hn) w hl
  unfold ddV at cr
  have hx8 : xs.length ≤ 9 := by have := (dkB_of hd).2.2; change xs.length ≤ 8 at this; omega
  have cc : ∀ W, LdsAt W a xs → Calls Tryz.prog 60 #[.agg #[.int .i64 N, .string (bs s), .slice a xs.length cap]] W fun e w' => ∃ a' cap', e = .returned (.agg #[.int .i64 N, .string (bs s), .slice a' xs.length cap']) ∧ Own2 w' W.heap.size a' cap' xs ∧ W.grownBy w' none := fun W hW => scopy_any ((N, s), xs) a cap W hW h0 hx8
  have HX := Lib.hid (h.grown g2)
  have G2 := Lib.hid g2
  obtain ⟨⟨⟨⟨p2, u2⟩, ys2⟩, ok⟩, hR⟩ : ∃ R, R = doR ((N, s), xs) D := ⟨_, rfl⟩
  have cd : ∀ W, LdsAt W a xs → Calls Tryz.prog 61 #[.agg #[.int .i64 N, .string (bs s), .slice a xs.length cap], .agg #[.int .i64 D.1, .int .i64 D.2.1, .string (bs D.2.2)]] W fun e w' => ∃ a' cap', e = .returned (.tuple #[.agg #[.int .i64 p2, .string (bs u2), .slice a' ys2.length cap'], .bool ok]) ∧ OwnL w' W.heap.size a' ys2 ∧ (a' = none → cap' = 0) ∧ W.grownBy w' none := fun W hW => by
    have := sdo_do ((N, s), xs) D a cap W hW h0
    rw [← hR] at this
    exact this
  rw [← hR]
  obtain ⟨U, hU⟩ : ∃ U, U = bs l := ⟨_, rfl⟩
  rw [← hU] at cr ⊢
  clear h g2 hd hx8 hU hn hl hR
  go_enter Tryz.func21, Tryz.ntmps21
  go_wp2_with fail
  generalize (w.alloc (.cells #[.int .i64 N, .string (bs s), .slice a xs.length cap] 32)).alloc (.cells #[.int .i64 0, .string ⟨#[]⟩, .slice none 0 0] 32) = W at *
  refine ck.mono ?_
  rintro e w1 ⟨rfl, hg1⟩
  have G1 := Lib.hid (grownBy_trans G2.out hg1)
  have HX1 := Lib.hid (HX.out.grown hg1)
  have hD1 := Lib.hid (hD.out.grown hg1)
  have hZ1 := Lib.hid (hZ.out.grown hg1)
  obtain ⟨d0, d1, d2⟩ := hD1.out.three
  clear ck hg1
  go_wp2_with fail
  refine (cc _ HX1.out).mono ?_
  rintro e w2 ⟨a', c', rfl, ho, hg2⟩
  have gA := World.grownBy_alloc w2 (.cells #[.int .i64 N, .string (bs s), .slice a' xs.length c'] 32) none
  have g12 := grownBy_trans hg2 gA
  have G12 := Lib.hid (grownBy_trans G1.out g12)
  have hD2 := Lib.hid (hD1.out.grown g12)
  have hZ2 := Lib.hid (hZ1.out.grown g12)
  have hS2 := Lib.hid (CellsAt.new w2 #[.int .i64 N, .string (bs s), .slice a' xs.length c'] 32)
  have HX2 := Lib.hid (HX1.out.grown g12)
  have hb2 : Hid (w.heap.size + 2 ≤ w2.heap.size) := Lib.hid (by
    have := hZ1.out.lt; have := hg2.size; omega)
  clear cc ho hg2 gA g12 d0 d1 d2
  go_wp2_with fail
  generalize w2.alloc (.cells #[.int .i64 N, .string (bs s), .slice a' xs.length c'] 32) = W2 at *
  generalize w2.heap.size = sb at *
  refine (cr _).mono ?_
  rintro e w3 ⟨rfl, hg3⟩
  have gA := World.grownBy_alloc w3 (.cells #[.int .i64 D.1, .int .i64 D.2.1, .string (bs D.2.2)] 40) none
  have gW3 := Lib.hid (grownBy_trans hg3 gA)
  obtain ⟨d0, d1, d2⟩ := (hD2.out.grown gW3.out).three
  obtain ⟨e0, e1, e2⟩ := (CellsAt.new w3 #[.int .i64 D.1, .int .i64 D.2.1, .string (bs D.2.2)] 40).three
  clear cr hg3 gA
  go_wp2_with fail
  refine (cd _ (HX2.out.grown gW3.out)).mono ?_
  rintro e w4 ⟨a3, c3, rfl, o3, z3, hg4⟩
  have gX := World.grownBy_alloc w4 (.cells #[.int .i64 p2, .string (bs u2), .slice a3 ys2.length c3] 32) none
  have gW4 := Lib.hid (grownBy_trans gW3.out (grownBy_trans hg4 gX))
  have G4 := Lib.hid (grownBy_trans G12.out gW4.out)
  have hZ4 := Lib.hid (hZ2.out.grown gW4.out)
  obtain ⟨⟨y0, y1, y2⟩, v0, v1, v2⟩ := dk_facts hZ4.out
  obtain ⟨x0, x1, x2⟩ := (CellsAt.new w4 #[.int .i64 p2, .string (bs u2), .slice a3 ys2.length c3] 32).three
  have O4 := Lib.hid ((o3.kept gX).mono (base' := w.heap.size) (grownBy_trans G12.out gW3.out).size)
  have F := Lib.hid (hZ4.out.put3 (.int .i64 p2) (.string (bs u2)) (.slice a3 ys2.length c3))
  have P : Hid (LnPost (((p2, u2), ys2), ok) w (.returned (.tuple #[.agg #[.int .i64 p2, .string (bs u2), .slice a3 ys2.length c3], .string (okT ok)])) ((((w4.alloc (.cells #[.int .i64 p2, .string (bs u2), .slice a3 ys2.length c3] 32)).setCell ⟨w.heap.size + 1, 0, none⟩ (.int .i64 p2)).setCell ⟨w.heap.size + 1, 1, none⟩ (.string (bs u2))).setCell ⟨w.heap.size + 1, 2, none⟩ (.slice a3 ys2.length c3))) :=
    ⟨a3, c3, rfl, O4.out.put3 ⟨_, hZ4.out⟩ _ _ _, z3, put3_grown _ G4.out (by omega) _ _ _⟩
  clear hg4 gX cd e0 e1 e2 o3 d0 d1 d2
  cases ok
  · go_wp2_with fail
    exact bodyPost_ret (v := .tuple #[.agg #[.int .i64 p2, .string (bs u2), .slice a3 ys2.length c3], .string (okT false)]) (resDkB (b := .string (okT false)) rfl _ rfl rfl F.out) rfl P.out
  · go_wp2_with fail
    exact bodyPost_ret (v := .tuple #[.agg #[.int .i64 p2, .string (bs u2), .slice a3 ys2.length c3], .string (okT true)]) (resDkB (b := .string (okT true)) rfl _ rfl rfl F.out) rfl P.out

set_option maxRecDepth 8000 in
set_option maxHeartbeats 2000000 in
theorem sdl_bad (m : Int) (s : List UInt8) (xs : List Ld) (l : List UInt8) (a : Option Addr) (cap : Nat) (w : World) (h : LdsAt w a xs) (hd : dkB ((m, s), xs) = false) :
    Calls Tryz.prog 21 #[.agg #[.int .i64 m, .string (bs s), .slice a xs.length cap], .string (bs l)] w (LinePost (nilDk, ⟨#[]⟩) w) := by
  have g2 : w.grownBy ((w.alloc (.cells #[.int .i64 m, .string (bs s), .slice a xs.length cap] 32)).alloc (.cells #[.int .i64 0, .string ⟨#[]⟩, .slice none 0 0] 32)) none := grownBy_trans (World.grownBy_alloc w _ none) (World.grownBy_alloc _ _ none)
  have hZ := Lib.hid (CellsAt.second w (.cells #[.int .i64 m, .string (bs s), .slice a xs.length cap] 32) #[.int .i64 0, .string ⟨#[]⟩, .slice none 0 0] 32)
  have ck := sdesk_is ((m, s), xs) a cap _ (h.grown g2)
  rw [hd] at ck
  unfold dkV at ck
  have G2 := Lib.hid g2
  generalize bs l = U at *
  clear h g2 hd
  go_enter Tryz.func21, Tryz.ntmps21
  go_wp2_with fail
  generalize (w.alloc (.cells #[.int .i64 m, .string (bs s), .slice a xs.length cap] 32)).alloc (.cells #[.int .i64 0, .string ⟨#[]⟩, .slice none 0 0] 32) = W at *
  refine ck.mono ?_
  rintro e w1 ⟨rfl, hg1⟩
  have HZ1 := Lib.hid (hZ.out.grown hg1)
  have G1 := Lib.hid (grownBy_trans G2.out hg1)
  obtain ⟨⟨y0, y1, y2⟩, v0, v1, v2⟩ := dk_facts HZ1.out
  clear ck hg1
  go_wp2_with fail
  have F := HZ1.out.put3 (.int .i64 0) (.string ⟨#[]⟩) (.slice none 0 0)
  have P : LinePost (nilDk, ⟨#[]⟩) w (.returned (.tuple #[.agg #[.int .i64 0, .string ⟨#[]⟩, .slice none 0 0], .string ⟨#[]⟩])) (((w1.setCell ⟨w.heap.size + 1, 0, none⟩ (.int .i64 0)).setCell ⟨w.heap.size + 1, 1, none⟩ (.string ⟨#[]⟩)).setCell ⟨w.heap.size + 1, 2, none⟩ (.slice none 0 0)) :=
    ⟨none, 0, rfl, OwnL.nil _ _ _, fun _ => rfl, put3_grown _ G1.out (by omega) _ _ _⟩
  exact bodyPost_ret (v := .tuple #[.agg #[.int .i64 0, .string ⟨#[]⟩, .slice none 0 0], .string ⟨#[]⟩]) (resDkB (b := .string ⟨#[]⟩) rfl _ rfl rfl F) rfl P

theorem sdl_q (q N : Nat) (s l : List UInt8) (xs : List Ld) (a : Option Addr) (cap : Nat) (w : World) (hq : askW[q]? = some l) (hN : NowOk N s) (h : LdsAt w a xs) (h0 : a = none → cap = 0) (hd : dkB (((N : Int), s), xs) = true) :
    Calls Tryz.prog 21 #[.agg #[.int .i64 N, .string (bs s), .slice a xs.length cap], .string (bs l)] w (LinePost (((N, s), xs), ansQ N s q) w) := by
  have hq9 : q < 9 := (List.getElem?_eq_some_iff.1 hq).1
  match q, hq9, hq with
  | 0, _, hq => cases hq; exact sdl_q0 N s xs a cap w hN h h0 hd
  | 1, _, hq => cases hq; exact sdl_q1 N s xs a cap w hN h h0 hd
  | 2, _, hq => cases hq; exact sdl_q2 N s xs a cap w hN h h0 hd
  | 3, _, hq => cases hq; exact sdl_q3 N s xs a cap w hN h h0 hd
  | 4, _, hq =>
    cases hq
    cases hk : agI N s with
    | none => exact sdl_q4n N s xs hk a cap w hN h h0 hd
    | some k => exact sdl_q4s N s xs k hk a cap w hN h h0 hd
  | 5, _, hq => cases hq; exact sdl_q5 N s xs a cap w hN h h0 hd
  | 6, _, hq => cases hq; exact sdl_q6 N s xs a cap w hN h h0 hd
  | 7, _, hq => cases hq; exact sdl_q7 N s xs a cap w hN h h0 hd
  | 8, _, hq => cases hq; exact sdl_q8 N s xs a cap w hN h h0 hd

theorem sdl_o (N : Nat) (s : List UInt8) (xs : List Ld) (l : List UInt8) (hn : rdD l = none) (hq : l ∉ askW) (hl : l.length ≤ 2097152) (a : Option Addr) (cap : Nat) (w : World) (hN : NowOk N s) (h : LdsAt w a xs) (h0 : a = none → cap = 0) (hd : dkB (((N : Int), s), xs) = true) :
    Calls Tryz.prog 21 #[.agg #[.int .i64 N, .string (bs s), .slice a xs.length cap], .string (bs l)] w (LinePost (((N, s), xs), ansO N s l) w) := by
  by_cases hc : (cutL 32 l).length ≠ 2 ∧ (cutL 32 l).length ≠ 4
  · exact sdl_c N s xs l hn hq hl hc a cap w hN h h0 hd
  · match hL : cutL 32 l, hc with
    | [], hc => exact absurd (by simp) hc
    | [_], hc => exact absurd (by simp) hc
    | [f, x], _ =>
      by_cases hf : f = [102, 114, 111, 109]
      · cases hx : isF x
        · exact sdl_nofrom N s xs l hn hq hl f x hf hx hL a cap w hN h h0 hd
        · exact sdl_from N s xs l hn hq hl f x hf hx hL a cap w hN h h0 hd
      · exact sdl_two N s xs l hn hq hl f x hf hL a cap w hN h h0 hd
    | [_, _, _], hc => exact absurd (by simp) hc
    | [p, x, y, z], _ =>
      by_cases hp : p = [97, 116]
      · exact sdl_at N s xs l hn hq hl p x y z hp hL a cap w hN h h0 hd
      · exact sdl_four N s xs l hn hq hl p x y z hp hL a cap w hN h h0 hd
    | _ :: _ :: _ :: _ :: _ :: _, hc => exact absurd (by simp) hc

/-- The model's DeskLine, at any desk and any line. -/
theorem sdl_any (d : Dk) (l : List UInt8) (a : Option Addr) (cap : Nat) (w : World) (hl : l.length ≤ 2097152) (h : LdsAt w a d.2) (h0 : a = none → cap = 0) :
    Calls Tryz.prog 21 #[dkV d a cap, .string (bs l)] w (LinePost (lineR d l) w) := by
  obtain ⟨⟨m, s⟩, xs⟩ := d
  unfold lineR
  cases hd : dkB ((m, s), xs)
  · simp only [Bool.false_eq_true, if_false]
    exact sdl_bad m s xs l a cap w h hd
  · simp only [if_true]
    cases hq : rdD l with
    | some D => exact sdl_deed m s xs D l a cap w hq hl h h0 hd
    | none =>
      obtain ⟨N, rfl, hN⟩ := now_ok hd
      by_cases hw : l ∈ askW
      · obtain ⟨q, hq2⟩ := List.getElem?_of_mem hw
        rw [ansD_q hq2]
        exact sdl_q q N s l xs a cap w hq2 hN h h0 hd
      · rw [ansD_o hw]
        exact sdl_o N s xs l hq hw hl a cap w hN h h0 hd

end Go.Proofs.YtlnffpofbfigaaaGreatDoor

/-
  The draws of chapter 12: a desk.
-/
namespace Go.Proofs.YtlnffpofbfigaaaGreatDoor
open Go.RowKit

/-- A deed was drawn and done: what lies where ahead of what becomes of it. -/
def XGot (w0 : World) (b r Q : Nat) (m : Int) (s : List UInt8) (a : Option Addr) (cap : Nat) (xs : List Ld) (pv bv : Value) (wc : World) : Prop :=
  ∃ (c : Nat) (m2 : Int) (s2 : List UInt8) (xs2 : List Ld) (ok : Bool) (a2 : Option Addr) (cap2 : Nat), pv = .pointer (some ⟨c, 0, none⟩) ∧ bv = .bool ok ∧ BaseD w0 b r Q wc (.int .i64 m) (.string (bs s)) (.slice a xs.length cap) ∧ Own2 wc w0.heap.size a cap xs ∧ CellsAt wc c #[.int .i64 m2, .string (bs s2), .slice a2 xs2.length cap2] 32 ∧ (ok = true → xs2.length ≤ xs.length + 1 ∧ Own2 wc w0.heap.size a2 cap2 xs2) ∧ w0.heap.size < c ∧ c ≠ b
theorem XGot.new {w0 W : World} {b r Q : Nat} {m m2 : Int} {s s2 : List UInt8} {a a2 : Option Addr} {cap cap2 : Nat} {xs xs2 : List Ld} {ok : Bool} (h : BaseD w0 b r Q W (.int .i64 m) (.string (bs s)) (.slice a xs.length cap)) (o : Own2 W w0.heap.size a cap xs) (k : ok = true → xs2.length ≤ xs.length + 1 ∧ Own2 W w0.heap.size a2 cap2 xs2) :
    XGot w0 b r Q m s a cap xs (.pointer (some ⟨W.heap.size, 0, none⟩)) (.bool ok) (W.alloc (.cells #[.int .i64 m2, .string (bs s2), .slice a2 xs2.length cap2] 32)) :=
  ⟨_, m2, s2, xs2, ok, a2, cap2, rfl, rfl, h.alloc _, o.kept (World.grownBy_alloc _ _ none), CellsAt.new W _ _, fun e => ⟨(k e).1, (k e).2.kept (World.grownBy_alloc _ _ none)⟩, h.2.1.lt, by have := h.1.lt; omega⟩
theorem XGot.old {w0 W : World} {b c r Q : Nat} {m m2 : Int} {s s2 : List UInt8} {a a2 : Option Addr} {cap cap2 : Nat} {xs xs2 : List Ld} {ok : Bool} {x y z : Value} (h : BaseD w0 b r Q W (.int .i64 m) (.string (bs s)) (.slice a xs.length cap)) (o : Own2 W w0.heap.size a cap xs) (k : ok = true → xs2.length ≤ xs.length + 1 ∧ Own2 W w0.heap.size a2 cap2 xs2) (hz : CellsAt W c #[x, y, z] 32) (hc : w0.heap.size < c) (hne : c ≠ b) (hr : r < w0.heap.size) :
    XGot w0 b r Q m s a cap xs (.pointer (some ⟨c, 0, none⟩)) (.bool ok) (((W.setCell ⟨c, 0, none⟩ (.int .i64 m2)).setCell ⟨c, 1, none⟩ (.string (bs s2))).setCell ⟨c, 2, none⟩ (.slice a2 xs2.length cap2)) :=
  ⟨c, m2, s2, xs2, ok, a2, cap2, rfl, rfl, h.aside hc hne hr _ _ _, o.put3 (dkB_at hz) _ _ _, hz.put3 _ _ _, fun e => ⟨(k e).1, (k e).2.put3 (dkB_at hz) _ _ _⟩, hc, hne⟩

set_option maxRecDepth 8000 in
set_option maxHeartbeats 16000000 in
theorem desk_draw (HD : DeedC) (n : Int) (w : World) (r P : Nat) (hr : Rd w r P) (hP : P ≤ 40000) (hn : 1 ≤ n) (hn2 : n ≤ 1000) :
    Calls Tryz.prog 46 #[.pointer (some ⟨r, 0, none⟩), .int .i64 n] w (DDPost r P w) := by
  unfold DeedC at HD
  have hlt := hr.lt
  have hr0 := hr.alloc (.cells #[.int .i64 0, .string ⟨#[]⟩, .slice none 0 0] 32)
  go_enter Tryz.func46, Tryz.ntmps46
  go_wp2_with fail
  have hRB := CellsAt.new w #[.int .i64 0, .string ⟨#[]⟩, .slice none 0 0] 32
  have hg0 := World.grownBy_alloc w (.cells #[.int .i64 0, .string ⟨#[]⟩, .slice none 0 0] 32) (some r)
  generalize w.alloc (.cells #[.int .i64 0, .string ⟨#[]⟩, .slice none 0 0] 32) = W0 at *
  refine (pick_any _ _ _ _ hr0 (by omega)).mono ?_
  rintro e w1 ⟨i, rfl, hi0, hi1, hr1, hg1⟩
  go_wp2_with fail
  have hin : inB (1 + i) 1 6 = true := inB_t (by omega)
  have cn := snew_any (1 + i) w1
  have e1 : newK (1 + i) = ((1 + i, [97]), []) := by unfold newK; rw [hin]; rfl
  rw [hin, e1] at cn
  unfold dkV at cn
  refine cn.mono ?_
  rintro e w2 ⟨rfl, hg2⟩
  have g02 := grownBy_trans hg0 (grownBy_trans hg1 (grown_none hg2))
  have hR2 := (hRB.kept hg1 (by simp; omega)).grown hg2
  have hr2 := hr1.grown hg2
  have hA := CellsAt.new w2 #[.int .i64 (1 + i), .string (bs [97]), .slice none ([] : List Ld).length 0] 32
  clear hRB hg0 hg1 hg2 hr0 hr1 cn hin e1
  have hbs : bs [97] = ⟨#[97]⟩ := rfl
  rw [hbs] at hA
  have hgA := World.grownBy_alloc w2 (.cells #[.int .i64 (1 + i), .string ⟨#[97]⟩, .slice none ([] : List Ld).length 0] 32) none
  have hb0 : w.heap.size < w2.heap.size := hR2.lt
  go_wp2_with fail
  change Calls _ _ _ (w2.alloc (.cells #[.int .i64 (1 + i), .string ⟨#[97]⟩, .slice none ([] : List Ld).length 0] 32)) _
  generalize w2.alloc (.cells #[.int .i64 (1 + i), .string ⟨#[97]⟩, .slice none ([] : List Ld).length 0] 32) = W3 at *
  have hR3 := hR2.grown hgA
  have hr3 := hr2.grown hgA
  have g03 := grownBy_trans g02 (grown_none hgA)
  generalize hbb : w2.heap.size = b at *
  clear hR2 hr2 g02 hgA hbb hbs
  refine (pick_any _ _ _ _ hr3 (by omega)).mono ?_
  rintro e w4 ⟨j0, rfl, hj0, hj1, hr4, hg4⟩
  obtain ⟨j0, rfl⟩ := Int.eq_ofNat_of_zero_le hj0
  have hInit : Hid (DkL w b r P (.int .i64 (j0 : Int)) w4) := ⟨j0, ((1 + i, [97]), []), none, 0, rfl, by omega, by simp; omega, hA.kept hg4 (by simp; omega), Own2.nil _ _, hr4.mono (by omega), grownBy_trans g03 hg4, hR3.kept hg4 (by simp; omega)⟩
  clear hA hR3 hr3 g03 hr4 hg4
  go_wp2_with fail
  go_loopw [7] (fun k wr => DkL w b r P k wr) (fun k _ => (intOf k).toNat)
  case atStart => exact hInit.out
  case round =>
    obtain ⟨j, d, a, cap, rfl, hj5, hdj, hBd, ho, hrr, hgw, hR⟩ := hrel
    obtain ⟨⟨m, s⟩, xs⟩ := d
    have hlrb : r < b := by omega
    obtain ⟨⟨d0, d1, d2⟩, f0, f1, f2⟩ := three_facts hBd
    by_cases hz : j = 0
    · subst hz
      have hx5 : xs.length ≤ 5 := hdj
      go_wp2_with fail
      refine (odd_any _ _ _ _ hrr (by omega) hn hn2).mono ?_
      rintro e wo ⟨bo, rfl, hro, hgo⟩
      have BB := Lib.hid (show BaseD w b r (P + 502 - 0 * 100 + 1) wo (.int .i64 m) (.string (bs s)) (.slice a xs.length cap) from ⟨hBd.kept hgo (by simp; omega), hR.kept hgo (by simp; omega), hro, grownBy_trans hgw hgo⟩)
      have OO := Lib.hid (ho.past hgo (by omega))
      obtain ⟨⟨d0, d1, d2⟩, f0, f1, f2⟩ := three_facts BB.out.1
      obtain ⟨⟨z0, z1, z2⟩, y0, y1, y2⟩ := three_facts BB.out.2.1
      clear hBd ho hR hgw hgo hrr
      cases bo
      · have E := Lib.hid (desk_end (P := P) BB.out OO.out rfl hlt (by omega))
        go_wp2_with fail
        exact bodyPost_ret (v := .agg #[.int .i64 m, .string (bs s), .slice a xs.length cap]) (resDk rfl _ rfl E.out.1) rfl E.out.2
      · go_wp2_with fail
        refine (pick_any _ _ _ _ hro (by omega)).mono ?_
        rintro e wp ⟨kp, rfl, hp0, hp1, hrp, hgp⟩
        have BP := Lib.hid (show BaseD w b r (P + 502 - 0 * 100 + 1 + 1) wp (.int .i64 m) (.string (bs s)) (.slice a xs.length cap) from ⟨BB.out.1.kept hgp (by simp; omega), BB.out.2.1.kept hgp (by simp; omega), hrp, grownBy_trans BB.out.2.2.2 hgp⟩)
        have OP := Lib.hid (OO.out.past hgp (by omega))
        obtain ⟨⟨d0, d1, d2⟩, f0, f1, f2⟩ := three_facts BP.out.1
        obtain ⟨⟨z0, z1, z2⟩, y0, y1, y2⟩ := three_facts BP.out.2.1
        have lbp := BP.out.1.lt
        have lhp := BP.out.2.1.lt
        clear hgp
        obtain rfl | rfl | rfl : kp = 0 ∨ kp = 1 ∨ kp = 2 := by omega
        · have B1 := Lib.hid (show BaseD w b r (P + 502 - 0 * 100 + 1 + 1) (wp.setCell ⟨b, 0, none⟩ (.int .i64 0)) (.int .i64 0) (.string (bs s)) (.slice a xs.length cap) from ⟨BP.out.1.set 0 (.int .i64 0), BP.out.set (by omega) hlt 0 _⟩)
          obtain ⟨⟨t0, t1, t2⟩, v0, v1, v2⟩ := three_facts B1.out.2.1
          have E := Lib.hid (desk_end (P := P) B1.out (OP.out.beside ⟨_, BP.out.1⟩ (grownBy_set wp b 0 _)) rfl hlt (by omega))
          go_wp2_with fail
          exact bodyPost_ret (v := .agg #[.int .i64 0, .string (bs s), .slice a xs.length cap]) (resDk rfl _ rfl E.out.1) rfl E.out.2
        · have B1 := Lib.hid (show BaseD w b r (P + 502 - 0 * 100 + 1 + 1) (wp.setCell ⟨b, 1, none⟩ (.string ⟨#[97, 62]⟩)) (.int .i64 m) (.string ⟨#[97, 62]⟩) (.slice a xs.length cap) from ⟨BP.out.1.set 1 (.string ⟨#[97, 62]⟩), BP.out.set (by omega) hlt 1 _⟩)
          obtain ⟨⟨t0, t1, t2⟩, v0, v1, v2⟩ := three_facts B1.out.2.1
          have E := Lib.hid (desk_end (P := P) B1.out (OP.out.beside ⟨_, BP.out.1⟩ (grownBy_set wp b 1 _)) rfl hlt (by omega))
          go_wp2_with fail
          exact bodyPost_ret (v := .agg #[.int .i64 m, .string ⟨#[97, 62]⟩, .slice a xs.length cap]) (resDk rfl _ rfl E.out.1) rfl E.out.2
        · obtain ⟨i0, hi, hy0, hy1, hy2⟩ := info_parts infoLd
          have OQ := Lib.hid (OP.out.kept (World.grownBy_alloc _ (.cells #[.int .i64 0, .string ⟨#[]⟩] 29) none))
          have BQ := Lib.hid (BP.out.alloc (.cells #[.int .i64 0, .string ⟨#[]⟩] 29))
          go_wp2_with (at_builtin; refine wpList_append_own _ rfl _ _ 30 rfl w.heap.size 29 i0 (.agg #[.int .i64 0, .string ⟨#[]⟩]) 2 24 Tryz.underlying30 hi hy0 hy1 hy2 rfl (by decide) _ _ _ rfl OQ.out ⟨wp.heap.size, 0, none⟩ 1 1 (ldC [nilLd]) rfl rfl (World.news_of_block (CellsAt.new wp #[.int .i64 0, .string ⟨#[]⟩] 29)) (ldC_one [nilLd]) (by unfold maxLen; omega) (by omega) (by have := BQ.out.2.1.lt; omega) ?_; intro v' w4 hown' hgrow _; obtain ⟨a4, cap4, rfl, ho4⟩ := own2_more hown'; have B4 := Lib.hid (BQ.out.own OQ.out hlt hgrow); have O4 := Lib.hid ho4; obtain ⟨⟨d0, d1, d2⟩, f0, f1, f2⟩ := three_facts B4.out.1; obtain ⟨⟨z0, z1, z2⟩, y0, y1, y2⟩ := three_facts B4.out.2.1; have B5 := Lib.hid (show BaseD w b r (P + 502 - 0 * 100 + 1 + 1) (w4.setCell ⟨b, 2, none⟩ (.slice a4 (xs.length + 1) cap4)) (.int .i64 m) (.string (bs s)) (.slice a4 (xs.length + 1) cap4) from ⟨B4.out.1.set 2 (.slice a4 (xs.length + 1) cap4), B4.out.set (by omega) hlt 2 _⟩); obtain ⟨⟨t0, t1, t2⟩, v0, v1, v2⟩ := three_facts B5.out.2.1; have E := Lib.hid (desk_end (P := P) (xs := xs ++ [nilLd]) B5.out (O4.out.beside ⟨_, B4.out.1⟩ (grownBy_set w4 b 2 _)) (by simp) hlt (by omega)); clear ho4 hown' hgrow)
          exact bodyPost_ret (v := .agg #[.int .i64 m, .string (bs s), .slice a4 (xs.length + 1) cap4]) (resDk rfl _ rfl E.out.1) rfl E.out.2
    · have HB := Lib.hid hBd
      have HO := Lib.hid ho
      have HR := Lib.hid hR
      have HG := Lib.hid hgw
      have hrl := hrr.lt
      change xs.length + j ≤ 5 at hdj
      have hpos : 0 < (j : Int) := by omega
      clear hBd ho hR hgw
      go_wp2_with fail
      have lbw := HB.out.lt
      go_cut [8, 9] from 19 to 31 (fun pv bv wc => XGot w b r (P + 502 - j * 100 + 100) m s a cap xs pv bv wc)
      case first =>
        go_region_with (first | (go_at_call 95; (with_reducible refine (HD _ r (P + 502 - j * 100) (by first | with_reducible exact hrr.drewn | with_reducible exact (hrr.alloc _).drewn) (by omega)).mono ?_); rintro e wa ⟨DD, rfl, hDl, hra, hga⟩; have h1 := Lib.hid (show wr.grownBy wa (some r) from grownBy_trans (by first | exact grownBy_drew (grownBy_refl _ _) | exact grownBy_drew (World.grownBy_alloc _ _ _)) hga); have HBa := Lib.hid (HB.out.kept h1.out (by simp; omega)); have HOa := Lib.hid (HO.out.past h1.out (by omega)); obtain ⟨⟨d0, d1, d2⟩, f0, f1, f2⟩ := three_facts HBa.out; have lba := HBa.out.lt; (first | (with_reducible have HA := Lib.hid (nf_1 (grownBy_undrew hga) hrl)) | skip); (first | (obtain ⟨⟨q0, q1, q2⟩, j0', j1', j2'⟩ := three_facts HA.out; have hal := HA.out.lt) | skip)) | (go_at_call 61; (with_reducible refine (sdo_drawn m s xs a cap w.heap.size (by omega) _ DD (by first | with_reducible exact HOa.out | with_reducible exact HOa.out.kept (World.grownBy_alloc _ _ none)) (by first | exact (grownBy_trans HG.out h1.out).size | exact Nat.le_trans (grownBy_trans HG.out h1.out).size (World.grownBy_alloc _ _ none).size)).mono ?_); rintro e wb ⟨m2, s2, xs2, ok, a2, cap2, rfl, hok, hgb⟩; have h2 := Lib.hid (show wa.grownBy wb none from grownBy_trans (by first | exact grownBy_refl _ _ | exact World.grownBy_alloc _ _ _) hgb); have HBb := Lib.hid (HBa.out.grown h2.out); obtain ⟨⟨d0, d1, d2⟩, f0, f1, f2⟩ := three_facts HBb.out; have lbb := HBb.out.lt; (first | (with_reducible have HZ := Lib.hid (HA.out.grown hgb)) | (with_reducible have HZ := Lib.hid (nf_2 hgb)) | skip); (first | (obtain ⟨⟨q0, q1, q2⟩, j0', j1', j2'⟩ := three_facts HZ.out; have hzl := HZ.out.lt) | skip)))
        all_goals
          have BB := Lib.hid (show BaseD w b r (P + 502 - j * 100 + 100) wb (.int .i64 m) (.string (bs s)) (.slice a xs.length cap) from ⟨HBb.out, (HR.out.kept h1.out (by simp; omega)).grown h2.out, hra.grown h2.out, grownBy_trans (grownBy_trans HG.out h1.out) (grown_none h2.out)⟩)
          have OO := Lib.hid (HOa.out.kept h2.out)
          have hja : j - 1 ≤ 5 := by omega
          have hjq : P + 502 - j * 100 + 100 ≤ P + 502 - (j - 1) * 100 := by omega
          have sza : w.heap.size < wa.heap.size := (HR.out.kept h1.out (by simp; omega)).lt
          have szr : w.heap.size < wr.heap.size := HR.out.lt
        all_goals go_wp2_with fail
        all_goals go_meet
        all_goals first
          | with_reducible exact XGot.new BB.out OO.out hok
          | with_reducible exact XGot.old BB.out OO.out hok HZ.out (by omega) (by omega) hlt
          | (trace_state; fail)
      case rest =>
        obtain ⟨c, m2, s2, xs2, ok, a2, cap2, rfl, rfl, hBB, hOO, hC, hok, hc0, hcb⟩ := hcut
        have BB := Lib.hid hBB
        have OO := Lib.hid hOO
        have HC := Lib.hid hC
        have HK := Lib.hid hok
        clear hBB hOO hC hok HB HO HR HG hrr hpos
        obtain ⟨⟨d0, d1, d2⟩, f0, f1, f2⟩ := three_facts BB.out.1
        obtain ⟨⟨q0, q1, q2⟩, j0', j1', j2'⟩ := three_facts HC.out
        have hja : j - 1 ≤ 5 := by omega
        have hjq : P + 502 - j * 100 + 100 ≤ P + 502 - (j - 1) * 100 := by omega
        have hkk : Value.int .i64 ((j : Int) - 1) = .int .i64 ((j - 1 : Nat) : Int) := by congr 1; omega
        cases ok
        · go_wp2_with fail
          go_roundw
          case rel => exact DkL.mk BB.out OO.out hkk hja (by omega) hjq
          case measure => simp [intOf]; omega
        · have hl2 := (HK.out rfl).1
          go_wp2_with fail
          go_roundw
          case rel => exact DkL.mk (BB.out.put (by omega) hlt _ _ _) ((HK.out rfl).2.put3 (dkB_at BB.out.1) _ _ _) hkk hja (by omega) hjq
          case measure => simp [intOf]; omega

end Go.Proofs.YtlnffpofbfigaaaGreatDoor

/-
  The draw of a line.
-/
namespace Go.Proofs.YtlnffpofbfigaaaGreatDoor
open Go.RowKit

theorem lit9s (k : Nat) (h : k < 9) : ∃ u : ByteArray, (#[.string ⟨#[115, 116, 101, 112, 115]⟩, .string ⟨#[116, 101, 120, 116]⟩, .string ⟨#[97, 108, 119, 97, 121, 115]⟩, .string ⟨#[108, 101, 97, 115, 116]⟩, .string ⟨#[97, 103, 97, 105, 110, 115, 116]⟩, .string ⟨#[99, 104, 97, 105, 110, 115]⟩, .string ⟨#[108, 101, 116, 116, 101, 114, 115]⟩, .string ⟨#[109, 111, 118, 101, 115]⟩, .string ⟨#[114, 111, 119]⟩] : Array Value)[k]? = some (.string u) ∧ u.size ≤ 10 := by
  match k, h with
  | 0, _ => exact ⟨_, rfl, by decide⟩
  | 1, _ => exact ⟨_, rfl, by decide⟩
  | 2, _ => exact ⟨_, rfl, by decide⟩
  | 3, _ => exact ⟨_, rfl, by decide⟩
  | 4, _ => exact ⟨_, rfl, by decide⟩
  | 5, _ => exact ⟨_, rfl, by decide⟩
  | 6, _ => exact ⟨_, rfl, by decide⟩
  | 7, _ => exact ⟨_, rfl, by decide⟩
  | 8, _ => exact ⟨_, rfl, by decide⟩
theorem lit13s (k : Nat) (h : k < 13) : ∃ u : ByteArray, (#[.string ⟨#[]⟩, .string ⟨#[99, 104, 97, 105, 110]⟩, .string ⟨#[99, 104, 97, 105, 110, 32, 120]⟩, .string ⟨#[99, 104, 97, 105, 110, 32, 49, 48]⟩, .string ⟨#[115, 97, 121]⟩, .string ⟨#[115, 97, 121, 32, 97, 62]⟩, .string ⟨#[97, 116, 32, 49, 32, 50]⟩, .string ⟨#[97, 116, 32, 49, 32, 50, 32, 120]⟩, .string ⟨#[97, 116, 32, 57, 32, 48, 32, 48]⟩, .string ⟨#[102, 114, 111, 109]⟩, .string ⟨#[102, 114, 111, 109, 32, 100]⟩, .string ⟨#[32, 116, 101, 120, 116]⟩, .string ⟨#[110, 111, 116, 32, 49]⟩] : Array Value)[k]? = some (.string u) ∧ u.size ≤ 10 := by
  match k, h with
  | 0, _ => exact ⟨_, rfl, by decide⟩
  | 1, _ => exact ⟨_, rfl, by decide⟩
  | 2, _ => exact ⟨_, rfl, by decide⟩
  | 3, _ => exact ⟨_, rfl, by decide⟩
  | 4, _ => exact ⟨_, rfl, by decide⟩
  | 5, _ => exact ⟨_, rfl, by decide⟩
  | 6, _ => exact ⟨_, rfl, by decide⟩
  | 7, _ => exact ⟨_, rfl, by decide⟩
  | 8, _ => exact ⟨_, rfl, by decide⟩
  | 9, _ => exact ⟨_, rfl, by decide⟩
  | 10, _ => exact ⟨_, rfl, by decide⟩
  | 11, _ => exact ⟨_, rfl, by decide⟩
  | 12, _ => exact ⟨_, rfl, by decide⟩
def LiPost (r P : Nat) (w : World) (e : Ending) (w' : World) : Prop := ∃ s : ByteArray, e = .returned (.string s) ∧ s.size ≤ 70 ∧ Rd w' r (P + 101) ∧ w.grownBy w' (some r)
theorem num6_any (k : Int) (w : World) (h0 : 0 ≤ k) (h1 : k < 7) : Calls Tryz.prog 62 #[.int .i64 k] w fun e w' => ∃ D : ByteArray, e = .returned (.string D) ∧ D.size = 1 ∧ w.grownBy w' none :=
  (num9_any k (inB_t (by omega)) w).mono fun e w' h => ⟨_, h.1, rfl, h.2⟩

set_option maxRecDepth 8000 in
set_option maxHeartbeats 4000000 in
theorem line_draw (w : World) (r P : Nat) (hr : Rd w r P) (hP : P ≤ 50000) :
    Calls Tryz.prog 59 #[.pointer (some ⟨r, 0, none⟩)] w (LiPost r P w) := by
  have hlt := hr.lt
  go_enter Tryz.func59, Tryz.ntmps59
  go_wp2_with fail
  refine (pick_any _ _ _ _ hr (by omega)).mono ?_
  rintro e w1 ⟨k, rfl, hk0, hk1, hr1, hg1⟩
  have hlt1 := hr1.lt
  clear hr hlt
  rcases (by omega : k = 0 ∨ k = 1 ∨ k = 2 ∨ k = 3 ∨ k = 4 ∨ k = 5 ∨ k = 6) with rfl | rfl | rfl | rfl | rfl | rfl | rfl
  ·
    go_wp2_with (go_at_call 41; (with_reducible refine (pick_any 9 _ r (P + 1) (by first | with_reducible exact hr1 | with_reducible exact hr1.alloc _) (by omega)).mono ?_); rintro e wb ⟨kp, rfl, hkp, hlp, hrp, hgp⟩; obtain ⟨kp, rfl⟩ := Int.eq_ofNat_of_zero_le hkp; obtain ⟨u, hC, hu⟩ := lit9s kp (by omega); have hltp : (kp : Int) < 9 := (by omega); have hmp := @cell_made wb _ 9 kp _ hC; (first | (have hx := cell_kept hgp hlt1 hC) | skip))
    all_goals
      go_ret
      refine ⟨u, rfl, by omega, ?_, ?_⟩
      · first | exact hrp.mono (by omega) | exact (hrp.alloc _).mono (by omega)
      · first
        | exact grownBy_trans hg1 (grownBy_trans (World.grownBy_alloc _ _ _) hgp)
        | exact grownBy_trans hg1 (grownBy_trans hgp (World.grownBy_alloc _ _ _))
  ·
    go_wp2_with (go_at_call 41; (with_reducible refine (pick_any 9 _ r (P + 1) (by first | with_reducible exact hr1 | with_reducible exact hr1.alloc _) (by omega)).mono ?_); rintro e wb ⟨kp, rfl, hkp, hlp, hrp, hgp⟩; obtain ⟨kp, rfl⟩ := Int.eq_ofNat_of_zero_le hkp; obtain ⟨u, hC, hu⟩ := lit9s kp (by omega); have hltp : (kp : Int) < 9 := (by omega); have hmp := @cell_made wb _ 9 kp _ hC; (first | (have hx := cell_kept hgp hlt1 hC) | skip))
    all_goals
      go_ret
      refine ⟨u, rfl, by omega, ?_, ?_⟩
      · first | exact hrp.mono (by omega) | exact (hrp.alloc _).mono (by omega)
      · first
        | exact grownBy_trans hg1 (grownBy_trans (World.grownBy_alloc _ _ _) hgp)
        | exact grownBy_trans hg1 (grownBy_trans hgp (World.grownBy_alloc _ _ _))
  ·
    go_wp2_with (go_at_call 41; (with_reducible refine (pick_any 13 _ r (P + 1) (by first | with_reducible exact hr1 | with_reducible exact hr1.alloc _) (by omega)).mono ?_); rintro e wb ⟨kp, rfl, hkp, hlp, hrp, hgp⟩; obtain ⟨kp, rfl⟩ := Int.eq_ofNat_of_zero_le hkp; obtain ⟨u, hC, hu⟩ := lit13s kp (by omega); have hltp : (kp : Int) < 13 := (by omega); have hmp := @cell_made wb _ 9 kp _ hC; (first | (have hx := cell_kept hgp hlt1 hC) | skip))
    all_goals
      go_ret
      refine ⟨u, rfl, by omega, ?_, ?_⟩
      · first | exact hrp.mono (by omega) | exact (hrp.alloc _).mono (by omega)
      · first
        | exact grownBy_trans hg1 (grownBy_trans (World.grownBy_alloc _ _ _) hgp)
        | exact grownBy_trans hg1 (grownBy_trans hgp (World.grownBy_alloc _ _ _))
  · have cn := fun k w => num6_any k w
    have hrX := hr1
    have hgX := hg1
    clear hr1 hg1
    go_wp2_with (first | (go_at_call 41; (with_reducible refine (pick_any 7 _ r _ hrX (by omega)).mono ?_); rintro e wb ⟨kp, rfl, hkp, hlp, hrp, hgp⟩; replace hrX := hrp; replace hgX := grownBy_trans hgX hgp; clear hgp hrp) | (go_at_call 62; (with_reducible refine (cn _ _ (by omega) (by omega)).mono ?_); rintro e wb ⟨D, rfl, hD, gn⟩; replace hrX := hrX.grown gn; replace hgX := grownBy_trans hgX (grown_none gn); clear gn))
    all_goals
      go_ret
      refine ⟨_, rfl, ?_, hrX.mono (by omega), hgX⟩
      have e1 : (⟨#[97, 116, 32]⟩ : ByteArray).size = 3 := rfl
      have e2 : (⟨#[32]⟩ : ByteArray).size = 1 := rfl
      simp only [ByteArray.size_append]
      omega
  · go_wp2_with (first | (go_at_call 108; (with_reducible refine (formed_draw 9 _ r (P + 1) hr1 (by omega) (by omega) (by omega)).mono ?_); rintro e wb ⟨S, rfl, hS, hrp, hgp⟩; have hS2 : ¬ (9223372036854775807 < 5 + S.size) := (by omega)))
    go_ret
    refine ⟨_, rfl, ?_, hrp.mono (by omega), grownBy_trans hg1 hgp⟩
    simp only [ByteArray.size_append]
    change 5 + S.size ≤ 70
    omega
  iterate 2
    · go_wp2_with fail
      refine (deed_draw _ _ _ hr1 (by omega)).mono ?_
      rintro e w2 ⟨⟨K, N, X⟩, rfl, hD, hr2, hg2⟩
      have c2 := stx_v K N X _ rfl
      have hz := tx_len (K, N, X)
      go_wp2_with fail
      refine (c2 _).mono ?_
      rintro e w3 ⟨rfl, hg3⟩
      go_wp2_with fail
      go_ret
      exact ⟨_, rfl, by rw [bs_size]; omega, (hr2.grown hg3).mono (by omega), grownBy_trans hg1 (grownBy_trans hg2 (grown_none hg3))⟩

def DdlPost (w : World) (e : Ending) (w' : World) : Prop := ∃ (d : Dk) (a : Option Addr) (cap : Nat) (l : List UInt8), e = .returned (.tuple #[dkV d a cap, .string (bs l)]) ∧ LdsAt w' a d.2 ∧ (a = none → cap = 0) ∧ l.length ≤ 70 ∧ w.grownBy w' none

set_option maxRecDepth 8000 in
set_option maxHeartbeats 8000000 in
theorem DrawDeskLine_any (a : Option Addr) (len cap : Nat) (zs : List Int) (w : World) (h : IsRow .u8 w a len cap zs) :
    Calls Tryz.prog 20 #[.slice a len cap] w (DdlPost w) := by
  have g0 := World.grownBy_alloc w (.cells #[.int .i64 0, .string ⟨#[]⟩, .slice none 0 0] 32) none
  have hB := CellsAt.new w #[.int .i64 0, .string ⟨#[]⟩, .slice none 0 0] 32
  have ha := h.up g0
  have hR : (w.alloc (.cells #[.int .i64 0, .string ⟨#[]⟩, .slice none 0 0] 32)).heap.size = w.heap.size + 1 := by show (w.heap.push _).size = _; rw [Array.size_push]
  have HR := Lib.hid hR
  have co := open_draw a len cap zs _ ha
  unfold OpenPost at co
  rw [hR] at co
  have HB := Lib.hid hB
  have G0 := Lib.hid g0
  clear h hB g0 hR ha
  go_enter Tryz.func20, Tryz.ntmps20
  go_wp2_with fail
  refine co.mono ?_
  rintro e w1 ⟨rfl, hr1, hg1⟩
  have cd := desk_draw (fun w r P hr hP => deed_draw w r P hr hP) 12 w1 (w.heap.size + 1) 0 hr1 (by omega) (by omega) (by omega)
  have hl1 := hr1.lt
  clear co
  go_wp2_with fail
  refine cd.mono ?_
  rintro e w2 ⟨d, a, cap, rfl, ho, hr2, hg2⟩
  obtain ⟨⟨m, s⟩, xs⟩ := d
  have hgg := grownBy_own hg1 (by rw [HR.out]; exact hg2)
  have hl2 := hr2.lt
  have gX := World.grownBy_alloc w2 (.cells #[.int .i64 m, .string (bs s), .slice a xs.length cap] 32) none
  have HC := Lib.hid (CellsAt.new w2 #[.int .i64 m, .string (bs s), .slice a xs.length cap] 32)
  have HB2 := Lib.hid ((HB.out.grown hgg).grown gX)
  have GG := Lib.hid (grownBy_trans hgg gX)
  have hr3 := hr2.alloc (.cells #[.int .i64 m, .string (bs s), .slice a xs.length cap] 32)
  have ho3 := Lib.hid (ho.kept gX)
  clear ho hr2 hg2 hg1 hr1 hgg cd gX
  unfold dkV
  go_wp2_with fail
  generalize w2.alloc (.cells #[.int .i64 m, .string (bs s), .slice a xs.length cap] 32) = W at *
  generalize w2.heap.size = c at *
  obtain ⟨z0, z1, z2⟩ := HC.out.three
  obtain ⟨⟨d0, d1, d2⟩, f0, f1, f2⟩ := dk_facts HB2.out
  go_region_with (go_at_call 59; (with_reducible refine (line_draw _ (w.heap.size + 1) 700 hr3.drewn (by omega)).mono ?_); rintro e wa ⟨S, rfl, hS, hra, hga⟩; have h1 := Lib.hid (grownBy_undrew hga); have HBa := Lib.hid (HB2.out.kept h1.out (by simp)); obtain ⟨x0, x1, x2⟩ := (HC.out.kept h1.out (by simp; omega)).three; obtain ⟨⟨y0, y1, y2⟩, v0, v1, v2⟩ := dk_facts HBa.out; have HO := Lib.hid (ho3.out.past h1.out (by omega)); clear hga)
  all_goals go_wp2_with fail
  all_goals exact bodyPost_ret (v := .tuple #[.agg #[.int .i64 m, .string (bs s), .slice a xs.length cap], .string S]) (resDkB (b := .string S) rfl _ rfl rfl (HBa.out.put3 _ _ _)) rfl ⟨((m, s), xs), a, cap, bl S, rfl, (HO.out.past (put3_past _ w.heap.size (.int .i64 m) (.string (bs s)) (.slice a xs.length cap)) (by omega)).at, HO.out.bare, by rw [← bl_size]; exact hS, put3_grown _ (grownBy_trans G0.out (grownBy_own GG.out (by rw [HR.out]; exact h1.out))) (Nat.le_refl _) _ _ _⟩

end Go.Proofs.YtlnffpofbfigaaaGreatDoor

/-
  The walk of FnDeskLine.
-/
namespace Go.Proofs.YtlnffpofbfigaaaGreatDoor
open Go.RowKit

def LineTo (p : Int) (u : List UInt8) (ys : List Ld) (A : ByteArray) (w : World) (e : Ending) (w' : World) : Prop := ∃ (a : Option Addr) (cap : Nat), e = .returned (.tuple #[.agg #[.int .i64 p, .string (bs u), .slice a ys.length cap], .string A]) ∧ LdsAt w' a ys ∧ (a = none → cap = 0) ∧ w.grownBy w' none
theorem lineTo_of {r : Dk × ByteArray} {p : Int} {u : List UInt8} {ys : List Ld} {A : ByteArray} {w w' : World} {e : Ending} (hr : r = (((p, u), ys), A)) (h : LinePost r w e w') : LineTo p u ys A w e w' := by
  subst hr
  obtain ⟨a, cap, rfl, ho, h0, hg⟩ := h
  exact ⟨a, cap, rfl, ho.at, h0, hg⟩
theorem line_no {d : Dk} {l : List UInt8} (h : dkB d = false) : lineR d l = (nilDk, ⟨#[]⟩) := by
  unfold lineR; rw [if_neg (by rw [h]; simp)]
/-- What a line to a desk leaves is a desk; unless the answer is ok, it is the desk before. -/
theorem line_yes {d e : Dk} {l : List UInt8} {A : ByteArray} (h : dkB d = true) (hr : lineR d l = (e, A)) : dkB e = true ∧ ((A.toList == [111, 107]) = true ∨ e = d) := by
  unfold lineR at hr
  rw [if_pos h] at hr
  cases hq : rdD l with
  | none => rw [hq] at hr; cases hr; exact ⟨h, .inr rfl⟩
  | some D =>
    rw [hq] at hr
    simp only at hr
    cases hk : doD d D with
    | none => rw [doR_none h hk] at hr; cases hr; exact ⟨h, .inr rfl⟩
    | some f => rw [doR_some h hk] at hr; cases hr; exact ⟨do_ok h hk, .inl (by rw [ByteArray.toList_eq]; rfl)⟩
theorem line_nil {d : Dk} (h : dkB d = true) : lineR d [] = (d, whatA) := by
  unfold lineR
  rw [if_pos h, show rdD [] = none by decide]
  show (d, ansD d.1.1 d.1.2 []) = _
  rw [ansD_o (by decide), ansO_one (by simp)]

set_option maxRecDepth 100000 in
set_option maxHeartbeats 8000000 in
theorem FnDeskLine_walk (a0 : Option Addr) (len0 cap0 : Nat) (z0 : List Int) (w : World) (w0 : IsRow .u8 w a0 len0 cap0 z0) (hT : WdAt w ∧ ErAt w) :
    Calls Tryz.prog 4 #[.slice a0 len0 cap0] w fun e w' => e = .returned (.bool true) ∧ Below w.heap.size w w' := by
  by_cases hl : (1048576 : Int) < (len0 : Int)
  · clear w0
    go_enter Tryz.func4, Tryz.ntmps4
    go_wp2_with fail
    go_ret
    exact ⟨rfl, Below.refl _ _⟩
  · go_enter Tryz.func4, Tryz.ntmps4
    go_wp2_with fail
    refine (DrawDeskLine_any _ _ _ _ _ w0).mono ?_
    rintro e w1 ⟨d, a, c, l, rfl, hd, h0, hll, g1⟩
    clear w0
    obtain ⟨⟨m, s⟩, xs⟩ := d
    have hA := CellsAt.new w1 #[.int .i64 m, .string (bs s), .slice a xs.length c] 32
    have gA := World.grownBy_alloc w1 (.cells #[.int .i64 m, .string (bs s), .slice a xs.length c] 32) none
    have hx := hd.grown gA
    have G1 := Lib.hid (grownBy_trans g1 gA)
    have HT := Lib.hid (show WdAt _ ∧ ErAt _ from ⟨hT.1.grown G1.out, hT.2.grown G1.out⟩)
    obtain ⟨x0, x1, x2⟩ := hA.three
    clear g1 hd gA hT
    unfold dkV
    go_wp2_with fail
    change LdsAt _ a xs at hx
    generalize w1.alloc (.cells #[.int .i64 m, .string (bs s), .slice a xs.length c] 32) = W1 at *
    generalize w1.heap.size = b at *
    have HA := Lib.hid hA
    have HX := Lib.hid hx
    clear hA hx
    obtain ⟨R, hR⟩ : ∃ R, R = lineR ((m, s), xs) l := ⟨_, rfl⟩
    obtain ⟨⟨⟨p, u⟩, ys⟩, A⟩ := R
    obtain ⟨U, hU⟩ : ∃ U, U = bs l := ⟨_, rfl⟩
    have c1 : ∀ w, W1.grownBy w none → Calls Tryz.prog 14 #[.agg #[.int .i64 m, .string (bs s), .slice a xs.length c], .string U] w (LineTo p u ys A w) := fun w hg => by
      rw [hU]
      exact (idl_any ((m, s), xs) l a c w (by omega) (HX.out.grown hg) h0 ⟨HT.out.1.grown hg, HT.out.2.grown hg⟩).mono fun _ _ q => lineTo_of hR.symm q
    have c2 : ∀ w, W1.grownBy w none → Calls Tryz.prog 21 #[.agg #[.int .i64 m, .string (bs s), .slice a xs.length c], .string U] w (LineTo p u ys A w) := fun w hg => by
      rw [hU]
      exact (sdl_any ((m, s), xs) l a c w (by omega) (HX.out.grown hg) h0).mono fun _ _ q => lineTo_of hR.symm q
    rw [← hU]
    clear hU hll
    refine (c1 _ (grownBy_refl _ _)).mono ?_
    rintro e w2 ⟨a1, k1, rfl, o1, z1, g2⟩
    have hX := CellsAt.new w2 #[.int .i64 p, .string (bs u), .slice a1 ys.length k1] 32
    have gX := World.grownBy_alloc w2 (.cells #[.int .i64 p, .string (bs u), .slice a1 ys.length k1] 32) none
    have o1' := o1.grown gX
    have G2 := Lib.hid (grownBy_trans g2 gX)
    obtain ⟨x0, x1, x2⟩ := (HA.out.grown G2.out).three
    clear g2 o1 gX c1
    go_wp2_with fail
    generalize w2.alloc (.cells #[.int .i64 p, .string (bs u), .slice a1 ys.length k1] 32) = W2 at *
    generalize w2.heap.size = bx at *
    have HB := Lib.hid hX
    have L1 := Lib.hid o1'
    clear hX o1'
    refine (c2 _ G2.out).mono ?_
    rintro e w3 ⟨a2, k2, rfl, o2, z2, g3⟩
    have hY := CellsAt.new w3 #[.int .i64 p, .string (bs u), .slice a2 ys.length k2] 32
    have gY := World.grownBy_alloc w3 (.cells #[.int .i64 p, .string (bs u), .slice a2 ys.length k2] 32) none
    have g23 := grownBy_trans g3 gY
    have HBB := Lib.hid (HB.out.grown g23)
    have L1' := Lib.hid (L1.out.grown g23)
    have L2 := Lib.hid (o2.grown gY)
    have G3 := Lib.hid (grownBy_trans G2.out g23)
    obtain ⟨x0, x1, x2⟩ := HBB.out.three
    obtain ⟨y0, y1, y2⟩ := hY.three
    clear g3 o2 gY c2 g23 z2
    go_wp2_with fail
    generalize w3.alloc (.cells #[.int .i64 p, .string (bs u), .slice a2 ys.length k2] 32) = W3 at *
    generalize w3.heap.size = bb at *
    clear hY
    have c3 : ∀ w, W3.grownBy w none → Calls Tryz.prog 18 #[.agg #[.int .i64 p, .string (bs u), .slice a1 ys.length k1], .agg #[.int .i64 p, .string (bs u), .slice a2 ys.length k2]] w fun e w' => e = .returned (.bool true) ∧ w.grownBy w' none := fun w hg => by
      have := dksame_any ((p, u), ys) ((p, u), ys) a1 a2 k1 k2 w (L1'.out.grown hg) (L2.out.grown hg)
      rw [sameK_self] at this
      exact this
    refine (c3 _ (grownBy_refl _ _)).mono ?_
    rintro e w4 ⟨rfl, g4⟩
    have hvv : (A.toList == A.toList) = true := by simp
    have G4 := Lib.hid (grownBy_trans G3.out g4)
    have HB4 := Lib.hid (HBB.out.grown g4)
    have L4 := Lib.hid (L1'.out.grown g4)
    obtain ⟨x0, x1, x2⟩ := HB4.out.three
    obtain ⟨y0, y1, y2⟩ := (HA.out.grown G4.out).three
    clear c3 g4 HBB L1' L2 L1 HB
    have cO : ∀ w, W1.grownBy w none → Calls Tryz.prog 13 #[.agg #[.int .i64 m, .string (bs s), .slice a xs.length c]] w fun e w' => e = .returned (.bool (dkB ((m, s), xs))) ∧ w.grownBy w' none := fun w hg => sdesk_is ((m, s), xs) a c w (HX.out.grown hg)
    cases hd0 : dkB ((m, s), xs)
    · rw [hd0] at cO
      rw [line_no hd0] at hR
      cases hR
      have cn : ∀ w, w4.grownBy w none → Calls Tryz.prog 22 #[.agg #[.int .i64 0, .string (bs []), .slice a1 0 k1]] w fun e w' => e = .returned (.bool true) ∧ w.grownBy w' none := fun w hg => by
        have := dkno_any ((0, []), []) a1 k1 w (L4.out.grown hg)
        rw [show sameK ((0, []), []) nilDk = true from sameK_self _] at this
        exact this
      clear hd0
      go_wp2_with (first | (go_at_call 13; (with_reducible refine (cO _ G4.out).mono ?_); rintro e w5 ⟨rfl, g5⟩; obtain ⟨x0, x1, x2⟩ := (HB4.out.grown g5).three; have G5 := Lib.hid g5; clear g5 cO) | (go_at_call 22; (with_reducible refine (cn _ G5.out).mono ?_); rintro e w6 ⟨rfl, g6⟩) | (go_at_call 19; refine (alive_any _).mono ?_; rintro e w9 ⟨rfl, rfl⟩))
      go_ret
      exact ⟨rfl, below_of (grownBy_trans G1.out (grownBy_trans G4.out (grownBy_trans G5.out g6)))⟩
    · rw [hd0] at cO
      obtain ⟨hdx, hor⟩ := line_yes hd0 hR.symm
      have cz : ∀ w, W1.grownBy w none → Calls Tryz.prog 14 #[.agg #[.int .i64 m, .string (bs s), .slice a xs.length c], .string ⟨#[]⟩] w (LineTo m s xs ⟨#[119, 104, 97, 116]⟩ w) := fun w hg => (idl_any ((m, s), xs) [] a c w (by simp) (HX.out.grown hg) h0 ⟨HT.out.1.grown hg, HT.out.2.grown hg⟩).mono fun _ _ q => lineTo_of (line_nil hd0) q
      clear hR hd0
      go_wp2_with fail
      refine (cO _ G4.out).mono ?_
      rintro e w5 ⟨rfl, g5⟩
      have G5 := Lib.hid (grownBy_trans G4.out g5)
      have HB5 := Lib.hid (HB4.out.grown g5)
      have L5 := Lib.hid (L4.out.grown g5)
      obtain ⟨y0, y1, y2⟩ := (HA.out.grown G5.out).three
      clear g5 cO HB4 L4 G4
      go_wp2_with fail
      refine (cz _ G5.out).mono ?_
      rintro e w6 ⟨a3, k3, rfl, o3, z3, g6⟩
      have hZ := CellsAt.new w6 #[.int .i64 m, .string (bs s), .slice a3 xs.length k3] 32
      have gZ := World.grownBy_alloc w6 (.cells #[.int .i64 m, .string (bs s), .slice a3 xs.length k3] 32) none
      have G6 := Lib.hid (grownBy_trans G5.out (grownBy_trans g6 gZ))
      have HB6 := Lib.hid (HB5.out.grown (grownBy_trans g6 gZ))
      have L6 := Lib.hid (L5.out.grown (grownBy_trans g6 gZ))
      have L3 := Lib.hid (o3.grown gZ)
      obtain ⟨x0, x1, x2⟩ := HB6.out.three
      clear g6 gZ cz o3 z3 G5 HB5 L5 y0 y1 y2
      go_wp2_with fail
      generalize w6.alloc (.cells #[.int .i64 m, .string (bs s), .slice a3 xs.length k3] 32) = W6 at *
      generalize w6.heap.size = bz at *
      have ZB := Lib.hid hZ
      obtain ⟨v0, v1, v2⟩ := hZ.three
      obtain ⟨y0, y1, y2⟩ := (HA.out.grown G6.out).three
      have cI : ∀ w, W6.grownBy w none → Calls Tryz.prog 23 #[.agg #[.int .i64 p, .string (bs u), .slice a1 ys.length k1]] w fun e w' => e = .returned (.bool true) ∧ w.grownBy w' none := fun w hg => by
        have := idesk_any ((p, u), ys) a1 k1 w (L6.out.grown hg)
        rw [hdx] at this
        exact this
      have cS : ∀ w, W6.grownBy w none → Calls Tryz.prog 18 #[.agg #[.int .i64 m, .string (bs s), .slice a3 xs.length k3], .agg #[.int .i64 m, .string (bs s), .slice a xs.length c]] w fun e w' => e = .returned (.bool true) ∧ w.grownBy w' none := fun w hg => by
        have := dksame_any ((m, s), xs) ((m, s), xs) a3 a k3 c w (L3.out.grown hg) (HX.out.grown (grownBy_trans G6.out hg))
        rw [sameK_self] at this
        exact this
      clear hZ hdx
      cases hq : (A.toList == [111, 107])
      · have he := hor.resolve_left (by rw [hq]; simp)
        cases he
        have cT : ∀ w, W6.grownBy w none → Calls Tryz.prog 18 #[.agg #[.int .i64 m, .string (bs s), .slice a1 xs.length k1], .agg #[.int .i64 m, .string (bs s), .slice a xs.length c]] w fun e w' => e = .returned (.bool true) ∧ w.grownBy w' none := fun w hg => by
          have := dksame_any ((m, s), xs) ((m, s), xs) a1 a k1 c w (L6.out.grown hg) (HX.out.grown (grownBy_trans G6.out hg))
          rw [sameK_self] at this
          exact this
        clear hor
        go_wp2_with (first | (go_at_call 23; (with_reducible refine (cI _ (grownBy_refl _ _)).mono ?_); rintro e w7 ⟨rfl, g7⟩; have G7 := Lib.hid g7; obtain ⟨x0, x1, x2⟩ := (HB6.out.grown g7).three; obtain ⟨y0, y1, y2⟩ := (HA.out.grown (grownBy_trans G6.out g7)).three; obtain ⟨v0, v1, v2⟩ := (ZB.out.grown g7).three; clear g7 cI) | (go_at_call 18; (with_reducible refine (cT _ G7.out).mono ?_); rintro e w8 ⟨rfl, g8⟩; have G8 := Lib.hid (grownBy_trans G7.out g8); obtain ⟨x0, x1, x2⟩ := (HB6.out.grown G8.out).three; obtain ⟨y0, y1, y2⟩ := (HA.out.grown (grownBy_trans G6.out G8.out)).three; obtain ⟨v0, v1, v2⟩ := (ZB.out.grown G8.out).three; clear g8 cT) | (go_at_call 18; (with_reducible refine (cS _ G8.out).mono ?_); rintro e w9 ⟨rfl, g9⟩))
        go_ret
        exact ⟨rfl, below_of (grownBy_trans G1.out (grownBy_trans G6.out (grownBy_trans G8.out g9)))⟩
      · clear hor
        go_wp2_with (first | (go_at_call 23; (with_reducible refine (cI _ (grownBy_refl _ _)).mono ?_); rintro e w7 ⟨rfl, g7⟩; have G7 := Lib.hid g7; obtain ⟨x0, x1, x2⟩ := (HB6.out.grown g7).three; obtain ⟨y0, y1, y2⟩ := (HA.out.grown (grownBy_trans G6.out g7)).three; obtain ⟨v0, v1, v2⟩ := (ZB.out.grown g7).three; clear g7 cI) | (go_at_call 18; (with_reducible refine (cS _ G7.out).mono ?_); rintro e w9 ⟨rfl, g9⟩))
        go_ret
        exact ⟨rfl, below_of (grownBy_trans G1.out (grownBy_trans G6.out (grownBy_trans G7.out g9)))⟩

end Go.Proofs.YtlnffpofbfigaaaGreatDoor

/-
  From the premise that the listed variables lie as the program's text lays them: the words of deeds, and the library's two errors.
-/
namespace Go.Proofs.YtlnffpofbfigaaaGreatDoor
open Go.ChangeShapes Go.WideShapes Go.ChangeAt Go.RowKit Go.Stop

theorem dword_list : (Rows.laid_loop_example_manyvalues_impl_deedWords : DataW Unit) = .agg (wordsL.map fun l => (DataW.lit (.string l) : DataW Unit)) := by kernel_rfl

theorem dword_cells {W : World} {g t f : Nat} {cs : Array Value} {p : List MemPlace} (hg : Tryz.prog.globalNamed "loop.example/manyvalues/impl.deedWords" = some g) (ht : (Tryz.prog.globals[g]?).map (·.type) = some t) (hv : W.var? Tryz.prog "loop.example/manyvalues/impl.deedWords" = some cs)
    (hd : DataW.trod (fun _ => ()) Tryz.prog W 0 (fun _ => true) false f t cs.toList = some (Rows.laid_loop_example_manyvalues_impl_deedWords, p)) : WdAt W := by
  rw [dword_list] at hd
  obtain rfl := Option.some.inj ((show Tryz.prog.globalNamed "loop.example/manyvalues/impl.deedWords" = some 0 by kernel_rfl).symm.trans hg)
  obtain rfl := Option.some.inj ((show (Tryz.prog.globals[0]?).map (·.type) = some 81 by kernel_rfl).symm.trans ht)
  obtain ⟨xs, m, _, ex, _, hl, hel⟩ := DataW.trod_array Tryz.underlying81 hd
  have hc1 : Tryz.prog.cellsOf 9 = 1 := by kernel_rfl
  have hlen : wordsL.length = 7 := rfl
  have e3 : (xs.map (·.1)) = wordsL.map fun l => (DataW.lit (.string l) : DataW Unit) := (DataW.agg.inj (Prod.mk.inj ex).1).symm
  have hxl : xs.length = 7 := by
    have := congrArg List.length e3
    simpa [hlen] using this
  have hc : ∀ r, r < 7 → W.cell? ⟨0, r, none⟩ = some (.string (bs (wordsL.getD r []))) := by
    intro r hr
    have hE := hel r (by omega)
    rw [hc1, Nat.mul_one, List.getElem?_eq_getElem (by omega)] at hE
    obtain ⟨z, e1, e2, _⟩ := DataW.trod_string Tryz.underlying9 hE
    have e4 : (xs.map (·.1))[r]? = (wordsL.map fun l => (DataW.lit (.string l) : DataW Unit))[r]? := by rw [e3]
    rw [List.getElem?_map, List.getElem?_map, List.getElem?_eq_getElem (by omega : r < xs.length), List.getElem?_eq_getElem (by omega : r < wordsL.length), e2] at e4
    have hz : z = bs (wordsL.getD r []) := by
      simp only [Option.map_some, Option.some.injEq, DataW.lit.injEq, Lit.string.injEq] at e4
      rw [List.getD_eq_getElem?_getD, List.getElem?_eq_getElem (by omega : r < wordsL.length), Option.getD_some, ← e4]
      exact (bs_bl z).symm
    rw [World.var?_cell hg hv r, ← hz]
    have : cs.toList[r]? = some (.string z) := by
      have h0 : ((cs.toList.drop r).take 1)[0]? = some (.string z) := by rw [e1]; rfl
      simpa using h0
    simpa using this
  exact ⟨World.block_lt_of_cell? W _ (hc 0 (by decide)), hc⟩

theorem wd_of_met {r : List (String × DataW Unit)} {W : World} (h : laidMet Tryz.prog (("loop.example/manyvalues/impl.deedWords", Rows.laid_loop_example_manyvalues_impl_deedWords) :: r) W) : WdAt W := by
  obtain ⟨ps, ⟨g0, t0, cs0, f0, p0, q0, hg0, ht0, hv0, hd0, _⟩, _⟩ := h
  exact dword_cells hg0 ht0 hv0 hd0

theorem er_star : "*" ++ "errors.errorString" = "*errors.errorString" := by decide
theorem er_type (u : TypeId) (h : Tryz.prog.typeName? 3 u = some "*errors.errorString") : u = 227 :=
  typeName_ptr_named (nm := "errors.errorString") (by rw [er_star]; kernel_rfl) (by kernel_rfl) (by decide) u (by rw [er_star]; exact h)
theorem er_cells : Tryz.prog.cellsOf 229 = 1 := by kernel_rfl
theorem er_cells9 : Tryz.prog.cellsOf 9 = 1 := by kernel_rfl
theorem er_iface {n : String} {g : Nat} {l : List UInt8} {r : List (String × DataW Unit)} {W : World} (h : laidMet Tryz.prog ((n, .iface "*errors.errorString" (.ptr (.agg [.lit (.string l)]))) :: r) W) (hg : Tryz.prog.globalNamed n = some g) (ht : (Tryz.prog.globals[g]?).map (·.type) = some 88) : ∃ tp p, W.cell? ⟨g, 0, none⟩ = some (.iface tp p) := by
  obtain ⟨a, s, hv, _, _, _⟩ := laid_sentinel h hg ht Tryz.underlying88 er_type Tryz.underlying227 Tryz.underlying229 rfl rfl Tryz.underlying9 er_cells er_cells9
  exact ⟨_, _, by simpa using World.var?_cell hg hv 0⟩

def laid6 : List (String × DataW Unit) := [("math/bits.deBruijn32tab", Rows.laid_math_bits_deBruijn32tab), ("math/bits.deBruijn64tab", Rows.laid_math_bits_deBruijn64tab), ("internal/strconv.uint64pow10", Rows.laid_internal_strconv_uint64pow10), ("strconv.ErrRange", Rows.laid_strconv_ErrRange), ("strconv.ErrSyntax", Rows.laid_strconv_ErrSyntax), ("loop.example/manyvalues/impl.deedWords", Rows.laid_loop_example_manyvalues_impl_deedWords)]
def laid4 : List (String × DataW Unit) := [("math/bits.deBruijn32tab", Rows.laid_math_bits_deBruijn32tab), ("math/bits.deBruijn64tab", Rows.laid_math_bits_deBruijn64tab), ("internal/strconv.uint64pow10", Rows.laid_internal_strconv_uint64pow10), ("loop.example/manyvalues/impl.deedWords", Rows.laid_loop_example_manyvalues_impl_deedWords)]
theorem wd_of_laid6 {W : World} (h : laidMetH Tryz.prog laid6 W) : WdAt W ∧ ErAt W := by
  rw [MakeChecks.laidMetH_plain _ _ _ (by kernel_rfl)] at h
  have h3 : laidMet Tryz.prog _ W := h.tail.tail.tail
  exact ⟨wd_of_met h3.tail.tail, er_iface h3.tail (by kernel_rfl) (by kernel_rfl), er_iface h3 (by kernel_rfl) (by kernel_rfl)⟩
theorem wd_of_laid4 {W : World} (h : laidMetH Tryz.prog laid4 W) : WdAt W := by
  rw [MakeChecks.laidMetH_plain _ _ _ (by kernel_rfl)] at h
  have h3 : laidMet Tryz.prog _ W := h.tail.tail.tail
  exact wd_of_met h3

end Go.Proofs.YtlnffpofbfigaaaGreatDoor

/-
  From the premise that the listed variables lie as the program's text lays them (eight of them, one a table of the library held against a constant): the words of deeds, and the library's two errors.
-/
namespace Go.Proofs.YtlnffpofbfigaaaGreatDoor
open Go.ChangeShapes Go.WideShapes Go.ChangeAt Go.RowKit Go.Stop

def laid8 : List (String × DataW Unit) := [("math/bits.deBruijn32tab", Rows.laid_math_bits_deBruijn32tab), ("math/bits.deBruijn64tab", Rows.laid_math_bits_deBruijn64tab), ("internal/strconv.uint64pow10", Rows.laid_internal_strconv_uint64pow10), ("unicode/utf8.acceptRanges", Rows.laid_unicode_utf8_acceptRanges), ("strconv.ErrRange", Rows.laid_strconv_ErrRange), ("strconv.ErrSyntax", Rows.laid_strconv_ErrSyntax), ("loop.example/manyvalues/impl.deedWords", Rows.laid_loop_example_manyvalues_impl_deedWords), ("unicode/utf8.first", Rows.laid_unicode_utf8_first)]
theorem wd_of_laid8 {W : World} (h : laidMetH Tryz.prog laid8 W) : WdAt W ∧ ErAt W := by
  rw [MakeChecks.laidMetH_plain _ _ _ (by kernel_rfl)] at h
  have h3 : laidMet Tryz.prog _ W := h.tail.tail.tail.tail
  exact ⟨wd_of_met h3.tail.tail, er_iface h3.tail (by kernel_rfl) (by kernel_rfl), er_iface h3 (by kernel_rfl) (by kernel_rfl)⟩

end Go.Proofs.YtlnffpofbfigaaaGreatDoor
