/-
  Copies of desks that came in, and desks that are equal; the exact law of DeskOk.
-/
import Derived.Test.YtnkebgkocpeonaaDX2
namespace Go.Proofs.Ytnkebgkocpeonaa
open Go.RowKit

set_option maxHeartbeats 1000000 in
theorem eqLaid_yes (n : Int) (t : ByteArray) (w : World) :
    Calls Try.prog 72 #[.agg #[.int .i64 n, .string t], .agg #[.int .i64 n, .string t]] w fun e w' => e = .returned (.bool true) ∧ w.grownBy w' none := by
  go_enter Try.func72, Try.ntmps72
  go_wp2
  go_ret
  exact ⟨rfl, grownBy_trans (World.grownBy_alloc _ _ none) (World.grownBy_alloc _ _ none)⟩

def EqRel (xs : List Ld) (w : World) (i : Value) (wr : World) : Prop := ∃ k : Nat, k ≤ xs.length ∧ i = .int .i64 k ∧ w.grownBy wr none
set_option maxRecDepth 8000 in
set_option maxHeartbeats 2000000 in
theorem eqLaidS_yes (a b : Option Addr) (ca cb : Nat) (xs : List Ld) (w : World) (hx : LdsAt w a xs) (hy : LdsAt w b xs) :
    Calls Try.prog 73 #[.slice a xs.length ca, .slice b xs.length cb] w fun e w' => e = .returned (.bool true) ∧ w.grownBy w' none := by
  have hm := hx.1
  unfold maxLen at hm
  have HX := Lib.hid hx
  have HY := Lib.hid hy
  clear hx hy
  go_enter Try.func73, Try.ntmps73
  go_wp2
  go_loopw [5] (fun i wr => EqRel xs w i wr) (fun i _ => xs.length - (intOf i).toNat)
  case atStart => exact ⟨0, by omega, rfl, grownBy_refl _ _⟩
  case round =>
    obtain ⟨k, hk, rfl, hgr⟩ := hrel
    have Hgr := Lib.hid hgr
    clear hgr
    by_cases hlt : k < xs.length
    · rcases (HX.out.grown Hgr.out).2 with h0 | ⟨bx, ox, rfl, _, hcx⟩
      · rw [h0] at hlt; simp at hlt
      rcases (HY.out.grown Hgr.out).2 with h0 | ⟨by', oy, rfl, _, hcy⟩
      · rw [h0] at hlt; simp at hlt
      obtain ⟨x0, x1⟩ := hcx k hlt
      obtain ⟨y0, y1⟩ := hcy k hlt
      clear hcx hcy
      generalize xs.getD k nilLd = q at *
      go_wp2_with fail
      go_region_with (go_at_call 72; refine (eqLaid_yes _ _ _).mono ?_; rintro e w' ⟨rfl, hg⟩)
      all_goals go_wp2_with fail
      all_goals go_roundw
      all_goals first | (simp [intOf]; omega) | exact ⟨k + 1, by omega, by go_num, grownBy_trans Hgr.out (drew_grown hg)⟩ | exact ⟨k + 1, by omega, by go_num, grownBy_trans Hgr.out (grownBy_trans (grownBy_drewN (grownBy_refl _ _) _) hg)⟩
    · obtain rfl : k = xs.length := by omega
      go_wp2
      go_ret
      exact ⟨rfl, Hgr.out⟩

/-! Whole desks. -/
set_option maxRecDepth 8000 in
set_option maxHeartbeats 2000000 in
theorem szDesk_any (n : Int) (s : ByteArray) (a : Option Addr) (cap : Nat) (xs : List Ld) (w : World) (h : LdsAt w a xs) (hs : s.size ≤ maxLen) (hz : ∀ x ∈ xs, x.2.length ≤ maxLen) :
    Calls Try.prog 34 #[.agg #[.int .i64 n, .string s, .slice a xs.length cap], .int .i64 1048576] w (SzPost xs w) := by
  have g0 := World.grownBy_alloc w (.cells #[.int .i64 n, .string s, .slice a xs.length cap] 55) none
  have HB := Lib.hid (CellsAt.new w #[.int .i64 n, .string s, .slice a xs.length cap] 55)
  have cl := fun w1 (hg : World.grownBy _ w1 none) (l : Int) (hl : 0 ≤ l ∧ l ≤ 1048576) => szLaidS_any l a cap xs w1 hl ((h.grown g0).grown hg) hz
  have cs := fun w => szLaid_any n 1048576 s w (by omega) hs
  have G0 := Lib.hid g0
  clear h hz g0
  by_cases hq : (s.size : Int) ≤ 1048576
  · simp only [if_pos hq] at cs
    have hq0 : 0 ≤ 1048576 - (s.size : Int) := by omega
    go_enter Try.func34, Try.ntmps34
    go_wp2_with (first | (go_at_call 32; refine (cs _).mono ?_; rintro e w1 ⟨rfl, hg⟩; obtain ⟨b0, b1, b2⟩ := (HB.out.grown hg).three))
    refine (cl _ hg _ ⟨hq0, by omega⟩).mono ?_
    rintro e w2 ⟨v, rfl, hv, hg2⟩
    by_cases hneg : v < 0
    · go_wp2_with fail
      go_ret
      exact ⟨_, rfl, .inl (by decide), grownBy_trans G0.out (grownBy_trans hg hg2)⟩
    · have hv' : 0 ≤ v ∧ v ≤ 1048576 ∧ xs.length ≤ 1048576 := by
        rcases hv with q | q
        · exact absurd q hneg
        · exact q
      have HV := Lib.hid hv'
      clear hv hv'
      go_wp2_with fail
      go_ret
      exact ⟨_, rfl, .inr HV.out, grownBy_trans G0.out (grownBy_trans hg hg2)⟩
  · simp only [if_neg hq] at cs
    go_enter Try.func34, Try.ntmps34
    go_wp2_with (first | (go_at_call 32; refine (cs _).mono ?_; rintro e w1 ⟨rfl, hg⟩; obtain ⟨b0, b1, b2⟩ := (HB.out.grown hg).three))
    go_ret
    exact ⟨_, rfl, .inl (by decide), grownBy_trans G0.out hg⟩

set_option maxRecDepth 8000 in
set_option maxHeartbeats 2000000 in
theorem eqDesk_yes (n : Int) (s : ByteArray) (a b : Option Addr) (ca cb : Nat) (xs : List Ld) (w : World) (hx : LdsAt w a xs) (hy : LdsAt w b xs) :
    Calls Try.prog 36 #[.agg #[.int .i64 n, .string s, .slice a xs.length ca], .agg #[.int .i64 n, .string s, .slice b xs.length cb]] w fun e w' => e = .returned (.bool true) ∧ w.grownBy w' none := by
  have g2 : w.grownBy ((w.alloc (.cells #[.int .i64 n, .string s, .slice a xs.length ca] 31)).alloc (.cells #[.int .i64 n, .string s, .slice b xs.length cb] 31)) none := grownBy_trans (World.grownBy_alloc _ _ none) (World.grownBy_alloc _ _ none)
  have HB := Lib.hid (fun w' (hg : World.grownBy _ w' none) => two_desks (w := w) (A := #[.int .i64 n, .string s, .slice a xs.length ca]) (B := #[.int .i64 n, .string s, .slice b xs.length cb]) (T := 31) (U := 31) hg)
  have cl := fun w' (hg : World.grownBy _ w' none) => eqLaidS_yes a b ca cb xs w' ((hx.grown g2).grown hg) ((hy.grown g2).grown hg)
  have G2 := Lib.hid g2
  clear hx hy g2
  go_enter Try.func36, Try.ntmps36
  go_wp2_with (first | (go_at_call 72; refine (eqLaid_yes _ _ _).mono ?_; rintro e w1 ⟨rfl, hg⟩; obtain ⟨b0, b1, b2⟩ := (HB.out _ hg).1.three; obtain ⟨c0, c1, c2⟩ := (HB.out _ hg).2.three) | (go_at_call 73; refine (cl _ hg).mono ?_; rintro e w2 ⟨rfl, hg2⟩))
  go_ret
  exact ⟨rfl, grownBy_trans G2.out (grownBy_trans hg hg2)⟩

def T3 (W : World) (h : Nat) (A B C : Array Value) : Prop := CellsAt W h A 55 ∧ CellsAt W (h + 1) B 31 ∧ CellsAt W (h + 1 + 1) C 31
theorem T3.grown {W W' : World} {h : Nat} {A B C : Array Value} (k : T3 W h A B C) (hg : W.grownBy W' none) : T3 W' h A B C := ⟨k.1.grown hg, k.2.1.grown hg, k.2.2.grown hg⟩
theorem T3.set {W : World} {h : Nat} {A B C : Array Value} (k : T3 W h A B C) (i : Nat) (v : Value) : T3 (W.setCell ⟨h + 1 + 1, i, none⟩ v) h A B (C.setIfInBounds i v) :=
  ⟨k.1.kept (grownBy_set W _ i v) (by simp; omega), k.2.1.kept (grownBy_set W _ i v) (by simp), k.2.2.set i v⟩
theorem T3.facts {W : World} {h : Nat} {u v x u1 v1 x1 u2 v2 x2 : Value} (k : T3 W h #[u, v, x] #[u1, v1, x1] #[u2, v2, x2]) :
    (W.cell? ⟨h, 0, none⟩ = some u ∧ W.cell? ⟨h, 1, none⟩ = some v ∧ W.cell? ⟨h, 2, none⟩ = some x) ∧ (W.cell? ⟨h + 1, 0, none⟩ = some u1 ∧ W.cell? ⟨h + 1, 1, none⟩ = some v1 ∧ W.cell? ⟨h + 1, 2, none⟩ = some x1) ∧ (W.cell? ⟨h + 1 + 1, 0, none⟩ = some u2 ∧ W.cell? ⟨h + 1 + 1, 1, none⟩ = some v2 ∧ W.cell? ⟨h + 1 + 1, 2, none⟩ = some x2) ∧ (W.frozen? ⟨h + 1, 0, none⟩ = false ∧ W.frozen? ⟨h + 1, 1, none⟩ = false ∧ W.frozen? ⟨h + 1, 2, none⟩ = false) ∧ W.frozen? ⟨h + 1 + 1, 0, none⟩ = false ∧ W.frozen? ⟨h + 1 + 1, 1, none⟩ = false ∧ W.frozen? ⟨h + 1 + 1, 2, none⟩ = false :=
  ⟨k.1.three, k.2.1.three, k.2.2.three, ⟨k.2.1.frozen 0, k.2.1.frozen 1, k.2.1.frozen 2⟩, k.2.2.frozen 0, k.2.2.frozen 1, k.2.2.frozen 2⟩

set_option maxRecDepth 8000 in
set_option maxHeartbeats 2000000 in
theorem toDesk_any (n : Int) (s : ByteArray) (a : Option Addr) (cap : Nat) (xs : List Ld) (hn : xs.length ≤ 100000000) (w : World) (h : LdsAt w a xs) :
    Calls Try.prog 35 #[.agg #[.int .i64 n, .string s, .slice a xs.length cap]] w fun e w' => ∃ a' cap', e = .returned (.agg #[.int .i64 n, .string s, .slice a' xs.length cap']) ∧ Own2 w' w.heap.size a' cap' xs ∧ w.grownBy w' none := by
  have g3 := made3 w (.cells #[.int .i64 n, .string s, .slice a xs.length cap] 55) (.cells #[.int .i64 0, .string ⟨#[]⟩, .slice none 0 0] 31) (.cells #[.int .i64 0, .string ⟨#[]⟩, .slice none 0 0] 31)
  have ht : T3 (((w.alloc (.cells #[.int .i64 n, .string s, .slice a xs.length cap] 55)).alloc (.cells #[.int .i64 0, .string ⟨#[]⟩, .slice none 0 0] 31)).alloc (.cells #[.int .i64 0, .string ⟨#[]⟩, .slice none 0 0] 31)) w.heap.size #[.int .i64 n, .string s, .slice a xs.length cap] #[.int .i64 0, .string ⟨#[]⟩, .slice none 0 0] #[.int .i64 0, .string ⟨#[]⟩, .slice none 0 0] := ⟨(CellsAt.new w _ _).grown (grownBy_trans (World.grownBy_alloc _ _ none) (World.grownBy_alloc _ _ none)), (CellsAt.second w _ _ _).grown (World.grownBy_alloc _ _ none), CellsAt.third3 w _ _ _ _⟩
  have HT := Lib.hid ht
  have G3 := Lib.hid g3
  have HL := Lib.hid h
  clear h g3 ht
  go_enter Try.func35, Try.ntmps35
  go_wp2_with fail
  refine (toLaid_any n s _).mono ?_
  rintro e w1 ⟨rfl, hg1⟩
  have k1 := Lib.hid (HT.out.grown hg1)
  have g1 := Lib.hid (grownBy_trans G3.out hg1)
  obtain ⟨⟨a0, a1, a2⟩, ⟨b0, b1, b2⟩, ⟨c0, c1, c2⟩, ⟨f0, f1, f2⟩, f3, f4, f5⟩ := k1.out.facts
  have k2 := Lib.hid (show T3 ((w1.setCell ⟨w.heap.size + 1 + 1, 0, none⟩ (.int .i64 n)).setCell ⟨w.heap.size + 1 + 1, 1, none⟩ (.string s)) w.heap.size #[.int .i64 n, .string s, .slice a xs.length cap] #[.int .i64 0, .string ⟨#[]⟩, .slice none 0 0] #[.int .i64 n, .string s, .slice none 0 0] from (k1.out.set 0 (.int .i64 n)).set 1 (.string s))
  have g2 := Lib.hid (show w.grownBy ((w1.setCell ⟨w.heap.size + 1 + 1, 0, none⟩ (.int .i64 n)).setCell ⟨w.heap.size + 1 + 1, 1, none⟩ (.string s)) none from grownBy_put (grownBy_put g1.out (by omega) 0 _) (by omega) 1 _)
  clear hg1
  go_wp2_with fail
  generalize (w1.setCell ⟨w.heap.size + 1 + 1, 0, none⟩ (.int .i64 n)).setCell ⟨w.heap.size + 1 + 1, 1, none⟩ (.string s) = W2 at *
  have hb2 := k2.out.2.2.lt
  refine (toLaidS_any a cap xs hn W2 (HL.out.grown g2.out)).mono ?_
  rintro e w3 ⟨a', cap', rfl, ho, hg3⟩
  have k3 := Lib.hid (k2.out.grown hg3)
  have g3 := Lib.hid (grownBy_trans g2.out hg3)
  obtain ⟨⟨a0', a1', a2'⟩, ⟨b0', b1', b2'⟩, ⟨c0', c1', c2'⟩, ⟨f0', f1', f2'⟩, f3', f4', f5'⟩ := k3.out.facts
  have k4 := Lib.hid (show T3 (w3.setCell ⟨w.heap.size + 1 + 1, 2, none⟩ (.slice a' xs.length cap')) w.heap.size #[.int .i64 n, .string s, .slice a xs.length cap] #[.int .i64 0, .string ⟨#[]⟩, .slice none 0 0] #[.int .i64 n, .string s, .slice a' xs.length cap'] from k3.out.set 2 (.slice a' xs.length cap'))
  have F := Lib.hid (k4.out.2.1.put3 (.int .i64 n) (.string s) (.slice a' xs.length cap'))
  have O := Lib.hid (((ho.past (grownBy_set w3 (w.heap.size + 1 + 1) 2 (.slice a' xs.length cap')) hb2).past (put3_past _ (w.heap.size + 1) (.int .i64 n) (.string s) (.slice a' xs.length cap')) (by omega)).mono (base' := w.heap.size) (by omega))
  have G := Lib.hid (put3_grown (w.heap.size + 1) (grownBy_put (b := w.heap.size + 1 + 1) g3.out (by omega) 2 (.slice a' xs.length cap')) (by omega) (.int .i64 n) (.string s) (.slice a' xs.length cap'))
  clear ho hg3
  go_wp2_with fail
  exact bodyPost_ret (v := .agg #[.int .i64 n, .string s, .slice a' xs.length cap']) (resDk rfl _ rfl F.out) rfl ⟨a', cap', rfl, O.out, G.out⟩

set_option maxRecDepth 100000 in
set_option maxHeartbeats 4000000 in
theorem FnExactDeskOk_walk (a0 : Int) (s0 : ByteArray) (r0 : Option Addr) (cap0 : Nat) (xs0 : List Ld) (w : World) (z0 : s0.size ≤ maxLen) (l0 : LdsAt w r0 xs0) (_k0 : r0 = none → cap0 = 0) (q0 : ∀ x ∈ xs0, x.2.length ≤ maxLen) :
    Calls Try.prog 9 #[.agg #[.int .i64 a0, .string s0, .slice r0 xs0.length cap0]] w fun e w' => e = .returned (.bool true) ∧ Below w.heap.size w w' := by
  have g0 := World.grownBy_alloc w (.cells #[.int .i64 a0, .string s0, .slice r0 xs0.length cap0] 55) none
  have HB := Lib.hid (CellsAt.new w #[.int .i64 a0, .string s0, .slice r0 xs0.length cap0] 55)
  have cz := szDesk_any a0 s0 r0 cap0 xs0 (w.alloc (.cells #[.int .i64 a0, .string s0, .slice r0 xs0.length cap0] 55)) (l0.grown g0) z0 q0
  have HL := Lib.hid (l0.grown g0)
  have G0 := Lib.hid g0
  clear l0 g0
  go_enter Try.func9, Try.ntmps9
  go_wp2_with fail
  refine cz.mono ?_
  rintro e w1 ⟨v, rfl, hv, hg1⟩
  clear cz
  by_cases hneg : v < 0
  · clear hv
    go_wp2_with fail
    go_ret
    exact ⟨rfl, below_of (grownBy_trans G0.out hg1)⟩
  have hx : xs0.length ≤ 100000000 := by
    rcases hv with q | q
    · exact absurd q hneg
    · omega
  have hvp : 0 ≤ v := by omega
  clear hv hneg
  have H1 := Lib.hid (HB.out.grown hg1)
  have L1 := Lib.hid (HL.out.grown hg1)
  have K1 := Lib.hid (grownBy_trans G0.out hg1)
  obtain ⟨b0, b1, b2⟩ := H1.out.three
  clear hg1
  have ct := fun w h => toDesk_any a0 s0 r0 cap0 xs0 hx w h
  have ck : ∀ (w : World) (a : Option Addr) (cap : Nat), LdsAt w a xs0 → Calls Try.prog 19 #[.agg #[.int .i64 a0, .string s0, .slice a xs0.length cap]] w fun e w' => e = .returned (.bool (dkB ((a0, bl s0), xs0))) ∧ w.grownBy w' none := fun w a cap h => sdesk_is ((a0, bl s0), xs0) a cap w h
  have ci : ∀ (w : World) (a : Option Addr) (cap : Nat), LdsAt w a xs0 → Calls Try.prog 18 #[.agg #[.int .i64 a0, .string s0, .slice a xs0.length cap]] w fun e w' => e = .returned (.bool (dkB ((a0, bl s0), xs0))) ∧ w.grownBy w' none := fun w a cap h => idesk_any ((a0, bl s0), xs0) a cap w h
  have hvv : (dkB ((a0, bl s0), xs0) != dkB ((a0, bl s0), xs0)) = false := by simp
  generalize dkB ((a0, bl s0), xs0) = u at *
  go_wp2_with fail
  refine (ct _ L1.out).mono ?_
  rintro e w2 ⟨a2, c2, rfl, o2, hg2⟩
  go_wp2_with fail
  refine (ck _ a2 c2 o2.at).mono ?_
  rintro e w3 ⟨rfl, hg3⟩
  have K3 := Lib.hid (grownBy_trans hg2 hg3)
  obtain ⟨b0, b1, b2⟩ := (H1.out.grown K3.out).three
  clear o2 hg2 hg3 ck
  go_wp2_with fail
  refine (ct _ (L1.out.grown K3.out)).mono ?_
  rintro e w4 ⟨a4, c4, rfl, o4, hg4⟩
  have hX := CellsAt.new w4 #[.int .i64 a0, .string s0, .slice a4 xs0.length c4] 31
  have hgX := World.grownBy_alloc w4 (.cells #[.int .i64 a0, .string s0, .slice a4 xs0.length c4] 31) none
  have O4 := Lib.hid (o4.kept hgX)
  have K4 := Lib.hid (grownBy_trans K3.out (grownBy_trans hg4 hgX))
  clear o4 hg4
  go_wp2_with fail
  generalize w4.alloc (.cells #[.int .i64 a0, .string s0, .slice a4 xs0.length c4] 31) = W4 at *
  refine (ci _ a4 c4 O4.out.at).mono ?_
  rintro e w5 ⟨rfl, hg5⟩
  have HX := Lib.hid (hX.grown hg5)
  have O5 := Lib.hid (O4.out.kept hg5)
  have K5 := Lib.hid (grownBy_trans K4.out hg5)
  obtain ⟨b0, b1, b2⟩ := (H1.out.grown K5.out).three
  obtain ⟨x0, x1, x2⟩ := HX.out.three
  have L5 := Lib.hid (L1.out.grown K5.out)
  clear hX hgX hg5 ci
  go_wp2_with fail
  have ce := fun (w6 : World) (a6 : Option Addr) (c6 : Nat) (h1 : LdsAt w6 a4 xs0) (h2 : LdsAt w6 a6 xs0) => eqDesk_yes a0 s0 a4 a6 c4 c6 xs0 w6 h1 h2
  go_region_with (first | (go_at_call 35; (with_reducible refine (ct _ (L5.out.grown (grownBy_drew (grownBy_refl _ none)))).mono ?_); rintro e w6 ⟨a6, c6, rfl, o6, hg6⟩; have O6 := Lib.hid (O5.out.kept (drew_grown hg6)); obtain ⟨x0, x1, x2⟩ := (HX.out.grown (drew_grown hg6)).three) | (go_at_call 36; (with_reducible refine (ce _ a6 c6 O6.out.at o6.at).mono ?_); rintro e w7 ⟨rfl, hg7⟩))
  all_goals go_wp2_with fail
  all_goals go_ret
  all_goals exact ⟨rfl, below_of (grownBy_trans K1.out (grownBy_trans K5.out (grownBy_trans (drew_grown hg6) hg7)))⟩

end Go.Proofs.Ytnkebgkocpeonaa
