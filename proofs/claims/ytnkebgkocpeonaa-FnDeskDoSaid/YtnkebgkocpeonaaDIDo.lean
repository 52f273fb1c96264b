/-
  What a deed makes of a desk: impl's DeskDo.
-/
import Derived.Test.YtnkebgkocpeonaaDLay2
namespace Go.Proofs.Ytnkebgkocpeonaa
open Go.RowKit

theorem do_post' {w w' : World} {base : Nat} {a : Option Addr} {r : Dk × Bool} {cap : Nat} {u v s : Value} {b : Bool} (hg : w.grownBy w' none) (ho : OwnL w' base a r.1.2) (hb : w.heap.size + 3 ≤ base) (h0 : a = none → cap = 0) (hu : u = .int .i64 r.1.1.1) (hv : v = .string (bs r.1.1.2)) (hs : s = .slice a r.1.2.length cap) (hr : b = r.2) :
    DoPost r w (.returned (.tuple #[.agg #[u, v, s], .bool b])) (((w'.setCell ⟨w.heap.size + 1 + 1, 0, none⟩ u).setCell ⟨w.heap.size + 1 + 1, 1, none⟩ v).setCell ⟨w.heap.size + 1 + 1, 2, none⟩ s) := by
  obtain ⟨⟨x, xs⟩, b'⟩ := r
  change b = b' at hr
  subst hr
  exact do_post hg (ho.mono hb) h0 hu hv hs

set_option maxRecDepth 8000 in
set_option maxHeartbeats 1000000 in
theorem ido_bad (x : Ld) (xs : List Ld) (dk dn : Int) (dt : List UInt8) (a : Option Addr) (cap : Nat) (w : World) (h : LdsAt w a xs) (hd : dkB (x, xs) = false) :
    Calls Try.prog 26 #[dkV (x, xs) a cap, ddV (dk, dn, dt)] w (DoPost (nilDk, false) w) := by
  have hb := box3_new w (x, xs) a cap dk dn (bs dt)
  have g3 := made3 w (.cells #[.int .i64 x.1, .string (bs x.2), .slice a xs.length cap] 31) (.cells #[.int .i64 dk, .int .i64 dn, .string (bs dt)] 39) (.cells zeroDk 31)
  have hz := size3 w (.cells #[.int .i64 x.1, .string (bs x.2), .slice a xs.length cap] 31) (.cells #[.int .i64 dk, .int .i64 dn, .string (bs dt)] 39) (.cells zeroDk 31)
  have ck := idesk_any (x, xs) a cap _ (h.grown g3)
  rw [hd] at ck
  have HB := Lib.hid hb
  have G3 := Lib.hid g3
  have HZ := Lib.hid hz
  clear h hb g3 hz
  unfold dkV at *
  unfold ddV
  go_enter Try.func26, Try.ntmps26
  go_wp2_with (first | (go_at_call 18; refine ck.mono ?_; rintro e w1 ⟨rfl, hg⟩; obtain ⟨⟨d0, d1, d2⟩, ⟨e0, e1, e2⟩, ⟨r0, r1, r2⟩, f0, f1, f2⟩ := (HB.out.grown hg).facts))
  have F := (HB.out.grown hg).2.2.put3 (.int .i64 0) (.string ⟨#[]⟩) (.slice none 0 0)
  have P := do_post (x := nilLd) (b := false) (u := .int .i64 0) (v := .string ⟨#[]⟩) (s := .slice none 0 0) (cap := 0) (xs := []) (grownBy_trans G3.out hg) (OwnL.nil _ _ none) (fun _ => rfl) rfl rfl rfl
  exact bodyPost_ret (v := .tuple #[.agg #[.int .i64 0, .string ⟨#[]⟩, .slice none 0 0], .bool false]) (resDkB (b := .bool false) rfl _ rfl rfl F) rfl P

set_option maxRecDepth 8000 in
set_option maxHeartbeats 1000000 in
theorem ido_names (x : Ld) (xs : List Ld) (dk dn : Int) (dt : List UInt8) (a : Option Addr) (cap : Nat) (w : World) (h : LdsAt w a xs) (h0 : a = none → cap = 0) (hd : dkB (x, xs) = true) (hn : namesB (dk, dn, dt) = false) :
    Calls Try.prog 26 #[dkV (x, xs) a cap, ddV (dk, dn, dt)] w (DoPost ((x, xs), false) w) := by
  have hl := (dkB_of hd).2.2
  change xs.length ≤ 8 at hl
  have hb := box3_new w (x, xs) a cap dk dn (bs dt)
  have g3 := made3 w (.cells #[.int .i64 x.1, .string (bs x.2), .slice a xs.length cap] 31) (.cells #[.int .i64 dk, .int .i64 dn, .string (bs dt)] 39) (.cells zeroDk 31)
  have hz := size3 w (.cells #[.int .i64 x.1, .string (bs x.2), .slice a xs.length cap] 31) (.cells #[.int .i64 dk, .int .i64 dn, .string (bs dt)] 39) (.cells zeroDk 31)
  have ck := idesk_any (x, xs) a cap _ (h.grown g3)
  rw [hd] at ck
  have HB := Lib.hid hb
  have G3 := Lib.hid g3
  have HZ := Lib.hid hz
  have cn := names_any (dk, dn, dt)
  rw [hn] at cn
  have cc := fun w1 (hg : World.grownBy _ w1 none) => copied_any (x, xs) a cap w1 ((h.grown g3).grown hg) h0 (by show xs.length ≤ 9; omega)
  clear h hb g3 hz h0 hd hn
  unfold dkV at *
  unfold ddV at *
  go_enter Try.func26, Try.ntmps26
  go_wp2_with (first | (go_at_call 18; refine ck.mono ?_; rintro e w1 ⟨rfl, hg⟩; obtain ⟨⟨d0, d1, d2⟩, ⟨e0, e1, e2⟩, ⟨r0, r1, r2⟩, f0, f1, f2⟩ := (HB.out.grown hg).facts) | (go_at_call 58; refine (cn _).mono ?_; rintro e w2 ⟨rfl, hg2⟩; obtain ⟨⟨d0, d1, d2⟩, ⟨e0, e1, e2⟩, ⟨r0, r1, r2⟩, f0, f1, f2⟩ := ((HB.out.grown hg).grown hg2).facts) | (go_at_call 59; refine (cc _ (grownBy_trans hg hg2)).mono ?_; rintro e w3 ⟨a', cap', rfl, ho, hg3⟩; obtain ⟨⟨d0, d1, d2⟩, ⟨e0, e1, e2⟩, ⟨r0, r1, r2⟩, f0, f1, f2⟩ := (((HB.out.grown hg).grown hg2).grown hg3).facts))
  have F := (((HB.out.grown hg).grown hg2).grown hg3).2.2.put3 (.int .i64 x.1) (.string (bs x.2)) (.slice a' xs.length cap')
  have P := do_post (x := x) (xs := xs) (b := false) (grownBy_trans (grownBy_trans (grownBy_trans G3.out hg) hg2) hg3) (ho.l.mono (by have := hg.size; have := hg2.size; have := HZ.out; omega)) ho.bare rfl rfl rfl
  exact bodyPost_ret (v := .tuple #[.agg #[.int .i64 x.1, .string (bs x.2), .slice a' xs.length cap'], .bool false]) (resDkB (b := .bool false) rfl _ rfl rfl F) rfl P

set_option maxRecDepth 8000 in
set_option maxHeartbeats 1000000 in
theorem ido_back (x : Ld) (xs : List Ld) (dk dn : Int) (dt : List UInt8) (a : Option Addr) (cap : Nat) (w : World) (h : LdsAt w a xs) (r : Dk × Bool) (hk : dk = 6) (hd : dkB (x, xs) = true) (hn : namesB (dk, dn, dt) = true)
    (cb : ∀ w1, LdsAt w1 a xs → Calls Try.prog 60 #[.agg #[.int .i64 x.1, .string (bs x.2), .slice a xs.length cap]] w1 (DoPost r w1)) :
    Calls Try.prog 26 #[dkV (x, xs) a cap, ddV (dk, dn, dt)] w (DoPost r w) := by
  have hb := box3_new w (x, xs) a cap dk dn (bs dt)
  have g3 := made3 w (.cells #[.int .i64 x.1, .string (bs x.2), .slice a xs.length cap] 31) (.cells #[.int .i64 dk, .int .i64 dn, .string (bs dt)] 39) (.cells zeroDk 31)
  have hz := size3 w (.cells #[.int .i64 x.1, .string (bs x.2), .slice a xs.length cap] 31) (.cells #[.int .i64 dk, .int .i64 dn, .string (bs dt)] 39) (.cells zeroDk 31)
  have ck := idesk_any (x, xs) a cap _ (h.grown g3)
  rw [hd] at ck
  have HB := Lib.hid hb
  have G3 := Lib.hid g3
  have HZ := Lib.hid hz
  have cn := names_any (dk, dn, dt)
  rw [hn] at cn
  have cc := fun w1 (hg : World.grownBy _ w1 none) => cb w1 ((h.grown g3).grown hg)
  clear h hb g3 hz hd hn cb
  subst hk
  unfold dkV at *
  unfold ddV at *
  obtain ⟨⟨⟨rm, rs⟩, rl⟩, rb⟩ := r
  unfold DoPost dkV at cc
  go_enter Try.func26, Try.ntmps26
  go_wp2_with (first | (go_at_call 18; refine ck.mono ?_; rintro e w1 ⟨rfl, hg⟩; obtain ⟨⟨d0, d1, d2⟩, ⟨e0, e1, e2⟩, ⟨r0, r1, r2⟩, f0, f1, f2⟩ := (HB.out.grown hg).facts) | (go_at_call 58; refine (cn _).mono ?_; rintro e w2 ⟨rfl, hg2⟩; obtain ⟨⟨d0, d1, d2⟩, ⟨e0, e1, e2⟩, ⟨r0, r1, r2⟩, f0, f1, f2⟩ := ((HB.out.grown hg).grown hg2).facts) | (go_at_call 60; refine (cc _ (grownBy_trans hg hg2)).mono ?_; rintro e w3 ⟨a', cap', rfl, ho, h0', hg3⟩; obtain ⟨⟨d0, d1, d2⟩, ⟨e0, e1, e2⟩, ⟨r0, r1, r2⟩, f0, f1, f2⟩ := (((HB.out.grown hg).grown hg2).grown hg3).facts))
  have F := (((HB.out.grown hg).grown hg2).grown hg3).2.2.put3 (.int .i64 rm) (.string (bs rs)) (.slice a' rl.length cap')
  have P := do_post (x := (rm, rs)) (xs := rl) (b := rb) (grownBy_trans (grownBy_trans (grownBy_trans G3.out hg) hg2) hg3) (ho.mono (by have := hg.size; have := hg2.size; have := HZ.out; omega)) h0' rfl rfl rfl
  exact bodyPost_ret (v := .tuple #[.agg #[.int .i64 rm, .string (bs rs), .slice a' rl.length cap'], .bool rb]) (resDkB (b := .bool rb) rfl _ rfl rfl F) rfl P

set_option maxRecDepth 8000 in
set_option maxHeartbeats 1000000 in
theorem ido_lay (x : Ld) (xs : List Ld) (dk dn : Int) (dt : List UInt8) (a : Option Addr) (cap : Nat) (w : World) (h : LdsAt w a xs) (h0 : a = none → cap = 0) (hk : dk ≠ 6) (hd : dkB (x, xs) = true) (hn : namesB (dk, dn, dt) = true) (ht : dt.length ≤ 4000000) (y : Ld) (hy : y = aft x (dk, dn, dt)) (r : Dk × Bool) (hr : r = if ldB y = true ∧ y ≠ x then ((y, capP (xs ++ [x])), true) else ((x, xs), false)) :
    Calls Try.prog 26 #[dkV (x, xs) a cap, ddV (dk, dn, dt)] w (DoPost r w) := by
  have hl := (dkB_of hd).2.2
  have hx : x.2.length ≤ 60 := isF_len (ldB_of (dkB_of hd).2.1).2
  change xs.length ≤ 8 at hl
  have hb := box3_new w (x, xs) a cap dk dn (bs dt)
  have g3 := made3 w (.cells #[.int .i64 x.1, .string (bs x.2), .slice a xs.length cap] 31) (.cells #[.int .i64 dk, .int .i64 dn, .string (bs dt)] 39) (.cells zeroDk 31)
  have hz := size3 w (.cells #[.int .i64 x.1, .string (bs x.2), .slice a xs.length cap] 31) (.cells #[.int .i64 dk, .int .i64 dn, .string (bs dt)] 39) (.cells zeroDk 31)
  have ck := idesk_any (x, xs) a cap _ (h.grown g3)
  rw [hd] at ck
  have HB := Lib.hid hb
  have G3 := Lib.hid g3
  have HZ := Lib.hid hz
  have cn := names_any (dk, dn, dt)
  rw [hn] at cn
  have ca := aft_any x (dk, dn, dt) hx ht
  unfold AftPost at ca
  rw [← hy] at ca
  have cc := fun w1 (hg : World.grownBy _ w1 none) => lay_any x y xs a cap w1 ((h.grown g3).grown hg) h0 hl
  rw [← hr] at cc
  have hk6 : (dk == 6) = false := beq_false_of_ne hk
  clear h hb g3 hz hd hn hk hx ht hy hr h0
  unfold dkV at *
  unfold ddV at *
  unfold ldV at *
  obtain ⟨m, s⟩ := x
  obtain ⟨k, u⟩ := y
  obtain ⟨⟨⟨rm, rs⟩, rl⟩, rb⟩ := r
  unfold DoPost dkV at cc
  go_enter Try.func26, Try.ntmps26
  go_wp2_with (first | (go_at_call 18; refine ck.mono ?_; rintro e w1 ⟨rfl, hg⟩; obtain ⟨⟨d0, d1, d2⟩, ⟨e0, e1, e2⟩, ⟨r0, r1, r2⟩, f0, f1, f2⟩ := (HB.out.grown hg).facts) | (go_at_call 58; refine (cn _).mono ?_; rintro e w2 ⟨rfl, hg2⟩; obtain ⟨⟨d0, d1, d2⟩, ⟨e0, e1, e2⟩, ⟨r0, r1, r2⟩, f0, f1, f2⟩ := ((HB.out.grown hg).grown hg2).facts))
  have W2 := Lib.hid ((HB.out.grown hg).grown hg2)
  have CC : ∀ w3, w2.grownBy w3 none → _ := fun w3 hg3 => cc w3 (grownBy_trans (grownBy_trans hg hg2) hg3)
  have g02 := Lib.hid (grownBy_trans (grownBy_trans G3.out hg) hg2)
  have hs2 := Lib.hid (show w.heap.size + 3 ≤ w2.heap.size by have := hg.size; have := hg2.size; have := HZ.out; omega)
  clear cc hg hg2
  go_region_with (first | (go_at_call 62; refine (ca _).mono ?_; rintro e w3 ⟨rfl, hg3⟩; obtain ⟨⟨d0, d1, d2⟩, ⟨e0, e1, e2⟩, ⟨r0, r1, r2⟩, f0, f1, f2⟩ := (W2.out.grown (drew_grown hg3)).facts) | (go_at_call 61; refine (CC _ (drew_grown hg3)).mono ?_; rintro e w4 ⟨a', cap', rfl, ho, h0', hg4⟩; obtain ⟨⟨d0, d1, d2⟩, ⟨e0, e1, e2⟩, ⟨r0, r1, r2⟩, f0, f1, f2⟩ := ((W2.out.grown (drew_grown hg3)).grown hg4).facts))
  all_goals go_wp2
  all_goals
    have F := ((W2.out.grown (drew_grown hg3)).grown hg4).2.2.put3 (.int .i64 rm) (.string (bs rs)) (.slice a' rl.length cap')
    have P := do_post (x := (rm, rs)) (xs := rl) (b := rb) (grownBy_trans (grownBy_trans g02.out (drew_grown hg3)) hg4) (ho.mono (by have := hs2.out; have := (drew_grown hg3).size; omega)) h0' rfl rfl rfl
    exact bodyPost_ret (v := .tuple #[.agg #[.int .i64 rm, .string (bs rs), .slice a' rl.length cap'], .bool rb]) (resDkB (b := .bool rb) rfl _ rfl rfl F) rfl P

/-- What a deed makes of any desk. -/
theorem ido_any (d : Dk) (D : Dd) (a : Option Addr) (cap : Nat) (w : World) (h : LdsAt w a d.2) (h0 : a = none → cap = 0) (ht : D.2.2.length ≤ 4000000) :
    Calls Try.prog 26 #[dkV d a cap, ddV D] w (DoPost (doR d D) w) := by
  obtain ⟨x, xs⟩ := d
  obtain ⟨k, n, t⟩ := D
  cases hd : dkB (x, xs)
  · rw [doR_no hd]; exact ido_bad x xs k n t a cap w h hd
  have hl := (dkB_of hd).2.2
  change xs.length ≤ 8 at hl
  cases hn : namesB (k, n, t)
  · obtain ⟨h6, hw⟩ := names_no (x := x) hn
    rw [doR_none hd (doD_none (d := (x, xs)) h6 hw)]
    exact ido_names x xs k n t a cap w h h0 hd hn
  by_cases h6 : k = 6
  · have hD : ((k, n, t) : Dd) = (6, 0, []) := by
      subst h6
      unfold namesB at hn
      simp at hn
      rw [hn.1, hn.2]
    have hr : doR (x, xs) (k, n, t) = doR (x, xs) (6, 0, []) := by rw [hD]
    rw [hr]
    refine ido_back x xs k n t a cap w h _ h6 hd hn fun w1 hw1 => ?_
    obtain ⟨m, s⟩ := x
    cases hp : xs.getLast? with
    | some p =>
      rw [doR_some hd (doD_back (d := ((m, s), xs)) hp)]
      obtain ⟨ys, rfl⟩ : ∃ ys, xs = ys ++ [p] := List.getLast?_eq_some_iff.1 hp
      have hL : (ys ++ [p]).length = ys.length + 1 := by simp
      show Calls _ _ _ _ (DoPost ((p, (ys ++ [p]).dropLast), true) w1)
      rw [List.dropLast_concat, hL]
      exact back_some m s p ys a cap w1 hw1 h0 (by omega)
    | none =>
      have hx0 : xs = [] := List.getLast?_eq_none_iff.1 hp
      rw [doR_none hd (doD_back0 (d := ((m, s), xs)) hx0)]
      subst hx0
      exact back_none m s a cap w1 h0
  · refine ido_lay x xs k n t a cap w h h0 h6 hd hn ht _ rfl _ ?_
    have e := aft_new (x := x) (a := (k, n, t)) (dkB_of hd).2.1 hn h6
    have hne : ((k, n, t) : Dd) ≠ (6, 0, []) := fun q => h6 (congrArg Prod.fst q)
    by_cases hc : ldB (aft x (k, n, t)) = true ∧ aft x (k, n, t) ≠ x
    · rw [if_pos hc] at e
      rw [if_pos hc, doR_some hd (doD_new (d := (x, xs)) hne e)]
    · rw [if_neg hc] at e
      rw [if_neg hc, doR_none hd (doD_none (d := (x, xs)) hne e)]

end Go.Proofs.Ytnkebgkocpeonaa
