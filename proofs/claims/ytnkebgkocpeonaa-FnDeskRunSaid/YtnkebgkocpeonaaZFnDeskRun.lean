/-
  Joined out of the texts DDd, DX4, DX8, DRowD, DXD, DDs, DRd, DIDo, DRun, DWb, DWe: what each holds is told at its head.
-/
import Derived.Test.YtnkebgkocpeonaaDDk
import Derived.Test.YtnkebgkocpeonaaDDraw
import Derived.Laws.ResultCell
import Derived.Test.YtnkebgkocpeonaaDX3
import Derived.Test.YtnkebgkocpeonaaDX7
import Derived.Test.YtnkebgkocpeonaaDDkA
import Derived.Deep.RegionHeld3
import Derived.Test.YtnkebgkocpeonaaDLay2
import Derived.Test.YtnkebgkocpeonaaDDo2
import Derived.Deep.CutRange
import Derived.Test.YtnkebgkocpeonaaDSame
import Derived.Deep.DeepCutAuto

/-
  The draw of a desk with a deed.
-/
namespace Go.Proofs.Ytnkebgkocpeonaa
open Go.RowKit

theorem results_two {fn : Func} {p q : Tmp} {t u : TypeId} (h : fn.results = #[.cell p t, .cell q u]) (tmps : Array Value) (P : Program) (w : World) :
    (results fn tmps).run P w = ((asAddr (tmps.getD p undef)).run P w).andThen fun a w₁ => ((loadVar t a).run P w₁).andThen fun v w₂ => ((asAddr (tmps.getD q undef)).run P w₂).andThen fun b w₃ => ((loadVar u b).run P w₃).andThen fun x w₄ => .ok (.tuple #[v, x]) w₄ := by
  simp only [results, h]
  simp [Sem.run_bind, Result.andThen]
theorem resDkD {fn : Func} {p q : Tmp} (h : fn.results = #[.cell p 31, .cell q 39]) (tmps : Array Value) {w : World} {B C : Nat} {x y z i j k : Value} (hp : tmps.getD p undef = .pointer (some ⟨B, 0, none⟩)) (hq : tmps.getD q undef = .pointer (some ⟨C, 0, none⟩)) (hB : CellsAt w B #[x, y, z] 31) (hC : CellsAt w C #[i, j, k] 39) :
    (results fn tmps).run Try.prog w = .ok (.tuple #[.agg #[x, y, z], .agg #[i, j, k]]) w := by
  rw [results_two h, hp, hq]
  have h1 := run_loadVar_row w B 31 31 #[x, y, z] (0, 0) _ hB Try.underlying31 rfl sizeDk
  have h2 := run_loadVar_row w C 39 39 #[i, j, k] (0, 0) _ hC Try.underlying39 rfl sizeDd
  simp only [asAddr, Sem.run_pure, Result.andThen_ok, h1, h2]

/-- What lies where while the desk and the deed are handed out. -/
def DdS (w0 W : World) (c : Nat) (u v x p q t m s y : Value) : Prop :=
  CellsAt W w0.heap.size #[u, v, x] 31 ∧ CellsAt W (w0.heap.size + 1) #[p, q, t] 39 ∧ CellsAt W c #[m, s, y] 31 ∧ w0.grownBy W none ∧ w0.heap.size + 2 < c
def DdF (W : World) (b : Nat) (u v x : Value) : Prop := (W.cell? ⟨b, 0, none⟩ = some u ∧ W.cell? ⟨b, 1, none⟩ = some v ∧ W.cell? ⟨b, 2, none⟩ = some x) ∧ W.frozen? ⟨b, 0, none⟩ = false ∧ W.frozen? ⟨b, 1, none⟩ = false ∧ W.frozen? ⟨b, 2, none⟩ = false
theorem DdS.facts {w0 W : World} {c : Nat} {u v x p q t m s y : Value} (h : DdS w0 W c u v x p q t m s y) : DdF W w0.heap.size u v x ∧ DdF W (w0.heap.size + 1) p q t ∧ DdF W c m s y := ⟨three_facts h.1, set_facts h.2.1, three_facts h.2.2.1⟩
theorem DdS.put {w0 W : World} {c : Nat} {u v x p q t m s y : Value} (h : DdS w0 W c u v x p q t m s y) (a b d : Value) : DdS w0 (((W.setCell ⟨w0.heap.size, 0, none⟩ a).setCell ⟨w0.heap.size, 1, none⟩ b).setCell ⟨w0.heap.size, 2, none⟩ d) c a b d p q t m s y :=
  ⟨h.1.put3 _ _ _, h.2.1.kept (put3_past W _ _ _ _) (by simp), h.2.2.1.kept (put3_past W _ _ _ _) (by have := h.2.2.2.2; simp; omega), put3_grown _ h.2.2.2.1 (Nat.le_refl _) _ _ _, h.2.2.2.2⟩
theorem DdS.put2 {w0 W : World} {c : Nat} {u v x p q t m s y : Value} (h : DdS w0 W c u v x p q t m s y) (a b d : Value) : DdS w0 (((W.setCell ⟨w0.heap.size + 1, 0, none⟩ a).setCell ⟨w0.heap.size + 1, 1, none⟩ b).setCell ⟨w0.heap.size + 1, 2, none⟩ d) c u v x a b d m s y :=
  ⟨h.1.kept (put3_past W _ _ _ _) (by simp), h.2.1.put3 _ _ _, h.2.2.1.kept (put3_past W _ _ _ _) (by have := h.2.2.2.2; simp; omega), put3_grown _ h.2.2.2.1 (by omega) _ _ _, h.2.2.2.2⟩
theorem DdS.call {w0 W W' : World} {c : Nat} {u v x p q t m s y : Value} (h : DdS w0 W c u v x p q t m s y) (hg : W.grownBy W' (some (w0.heap.size + 2))) : DdS w0 W' c u v x p q t m s y :=
  ⟨h.1.kept hg (by simp), h.2.1.kept hg (by simp), h.2.2.1.kept hg (by have := h.2.2.2.2; simp; omega), ⟨hg.os.trans h.2.2.2.1.os, hg.tape.trans h.2.2.2.1.tape, hg.output.trans h.2.2.2.1.output, Nat.le_trans h.2.2.2.1.size hg.size, fun k hk hn => (hg.block k (Nat.lt_of_lt_of_le hk h.2.2.2.1.size) (by simp; omega)).trans (h.2.2.2.1.block k hk hn)⟩, h.2.2.2.2⟩
theorem DdS.drew {w0 W : World} {c : Nat} {u v x p q t m s y : Value} (h : DdS w0 W c u v x p q t m s y) : DdS w0 W.drew c u v x p q t m s y := ⟨h.1, h.2.1, h.2.2.1, grownBy_drew h.2.2.2.1, h.2.2.2.2⟩

def DdoPost (w : World) (e : Ending) (w' : World) : Prop := ∃ (d : Dk) (a : Option Addr) (cap : Nat) (D : Dd), e = .returned (.tuple #[dkV d a cap, .agg #[.int .i64 D.1, .int .i64 D.2.1, .string (bs D.2.2)]]) ∧ LdsAt w' a d.2 ∧ (a = none → cap = 0) ∧ D.2.2.length ≤ 100 ∧ w.grownBy w' none

set_option maxRecDepth 8000 in
set_option maxHeartbeats 8000000 in
theorem DrawDeskDo_any (a : Option Addr) (len cap : Nat) (zs : List Int) (w : World) (h : IsRow .u8 w a len cap zs) :
    Calls Try.prog 25 #[.slice a len cap] w (DdoPost w) := by
  have g0 : w.grownBy ((w.alloc (.cells #[.int .i64 0, .string ⟨#[]⟩, .slice none 0 0] 31)).alloc (.cells #[.int .i64 0, .int .i64 0, .string ⟨#[]⟩] 39)) none := grownBy_trans (World.grownBy_alloc w _ none) (World.grownBy_alloc _ _ none)
  have hB := CellsAt.first w (.cells #[.int .i64 0, .int .i64 0, .string ⟨#[]⟩] 39) #[.int .i64 0, .string ⟨#[]⟩, .slice none 0 0] 31
  have hC := CellsAt.second w (.cells #[.int .i64 0, .string ⟨#[]⟩, .slice none 0 0] 31) #[.int .i64 0, .int .i64 0, .string ⟨#[]⟩] 39
  have ha := h.up g0
  have hR : ((w.alloc (.cells #[.int .i64 0, .string ⟨#[]⟩, .slice none 0 0] 31)).alloc (.cells #[.int .i64 0, .int .i64 0, .string ⟨#[]⟩] 39)).heap.size = w.heap.size + 2 := by show ((w.heap.push _).push _).size = _; rw [Array.size_push, Array.size_push]
  have HR := Lib.hid hR
  have co := open_draw a len cap zs _ ha
  unfold OpenPost at co
  rw [hR] at co
  have HB := Lib.hid hB
  have HC := Lib.hid hC
  have G0 := Lib.hid g0
  clear h hB hC g0 hR ha
  go_enter Try.func25, Try.ntmps25
  go_wp2_with fail
  refine co.mono ?_
  rintro e w1 ⟨rfl, hr1, hg1⟩
  have cd := desk_draw (fun w r P hr hP => deed_draw w r P hr hP) 12 w1 (w.heap.size + 2) 0 hr1 (by omega) (by omega) (by omega)
  have hl1 := hr1.lt
  clear co
  go_wp2_with fail
  refine cd.mono ?_
  rintro e w2 ⟨d, a, cap, rfl, ho, hr2, hg2⟩
  obtain ⟨⟨m, s⟩, xs⟩ := d
  have hgg := grownBy_own hg1 (by rw [HR.out]; exact hg2)
  have hl2 := hr2.lt
  have S0 := Lib.hid (show DdS w (w2.alloc (.cells #[.int .i64 m, .string (bs s), .slice a xs.length cap] 31)) w2.heap.size (.int .i64 0) (.string ⟨#[]⟩) (.slice none 0 0) (.int .i64 0) (.int .i64 0) (.string ⟨#[]⟩) (.int .i64 m) (.string (bs s)) (.slice a xs.length cap) from ⟨(HB.out.grown hgg).grown (World.grownBy_alloc _ _ none), (HC.out.grown hgg).grown (World.grownBy_alloc _ _ none), CellsAt.new w2 _ _, grownBy_trans (grownBy_trans G0.out hgg) (World.grownBy_alloc _ _ none), hl2⟩)
  have hr3 := hr2.alloc (.cells #[.int .i64 m, .string (bs s), .slice a xs.length cap] 31)
  have ho3 := Lib.hid (ho.kept (World.grownBy_alloc w2 (.cells #[.int .i64 m, .string (bs s), .slice a xs.length cap] 31) none))
  clear ho hr2 hg2 hg1 hr1 hgg cd
  unfold dkV
  go_wp2_with fail
  generalize w2.alloc (.cells #[.int .i64 m, .string (bs s), .slice a xs.length cap] 31) = W at *
  generalize w2.heap.size = c at *
  obtain ⟨⟨⟨d0, d1, d2⟩, f0, f1, f2⟩, ⟨⟨e0, e1, e2⟩, i0, i1, i2⟩, ⟨⟨z0, z1, z2⟩, y0, y1, y2⟩⟩ := S0.out.facts
  go_region_with (go_at_call 57; (with_reducible refine (deed_draw _ (w.heap.size + 2) 700 hr3.drewn (by omega)).mono ?_); rintro e wa ⟨D, rfl, hDl, hra, hga⟩; have h1 := Lib.hid (grownBy_undrew hga); have S1 := Lib.hid (S0.out.call h1.out); have S2 := Lib.hid (S1.out.put (.int .i64 m) (.string (bs s)) (.slice a xs.length cap)); have S3 := Lib.hid (S2.out.put2 (.int .i64 D.1) (.int .i64 D.2.1) (.string (bs D.2.2))); have HO := Lib.hid ((ho3.out.past h1.out (by omega)).past (put3_past wa w.heap.size (.int .i64 m) (.string (bs s)) (.slice a xs.length cap)) (by omega)); obtain ⟨⟨⟨d0, d1, d2⟩, f0, f1, f2⟩, ⟨⟨e0, e1, e2⟩, i0, i1, i2⟩, ⟨⟨z0, z1, z2⟩, y0, y1, y2⟩⟩ := S1.out.facts; obtain ⟨⟨⟨p0, p1, p2⟩, q0, q1, q2⟩, ⟨⟨t0, t1, t2⟩, v0, v1, v2⟩, ⟨⟨x0, x1, x2⟩, u0, u1, u2⟩⟩ := S2.out.facts)
  all_goals go_wp2_with fail
  all_goals exact bodyPost_ret (v := .tuple #[.agg #[.int .i64 m, .string (bs s), .slice a xs.length cap], .agg #[.int .i64 D.1, .int .i64 D.2.1, .string (bs D.2.2)]]) (resDkD rfl _ rfl rfl S3.out.1 S3.out.2.1) rfl ⟨((m, s), xs), a, cap, D, rfl, (HO.out.past (put3_past _ (w.heap.size + 1) (.int .i64 D.1) (.int .i64 D.2.1) (.string (bs D.2.2))) (by omega)).at, HO.out.bare, hDl, S3.out.2.2.2.1⟩

end Go.Proofs.Ytnkebgkocpeonaa

/-
  The exact law of DeskNew: a desk without anything of before.
-/
namespace Go.Proofs.Ytnkebgkocpeonaa
open Go.RowKit

theorem markLds_nil (k : Int) (w : World) :
    Calls Try.prog 74 #[.slice none 0 0, .int .i64 k] w fun e w' => e = .returned (.int .i64 k) ∧ w = w' := by
  go_enter Try.func74, Try.ntmps74
  go_wp2
  go_loopw [1, 5] (fun kv i wr => kv = .int .i64 k ∧ i = .int .i64 0 ∧ w = wr) (fun _ _ _ => 0)
  case atStart => exact ⟨rfl, rfl, rfl⟩
  case round =>
    obtain ⟨rfl, rfl, rfl⟩ := hrel
    go_wp2
    go_ret
    exact ⟨rfl, rfl⟩
theorem heldLds_nil (k : Int) (w : World) :
    Calls Try.prog 75 #[.slice none 0 0, .int .i64 k] w fun e w' => e = .returned (.int .i64 k) ∧ w = w' := by
  go_enter Try.func75, Try.ntmps75
  go_wp2
  go_loopw [1, 5] (fun kv i wr => kv = .int .i64 k ∧ i = .int .i64 0 ∧ w = wr) (fun _ _ _ => 0)
  case atStart => exact ⟨rfl, rfl, rfl⟩
  case round =>
    obtain ⟨rfl, rfl, rfl⟩ := hrel
    go_wp2
    go_ret
    exact ⟨rfl, rfl⟩
theorem markDk_nil (m : Int) (t : ByteArray) (k : Int) (w : World) :
    Calls Try.prog 37 #[.agg #[.int .i64 m, .string t, .slice none 0 0], .int .i64 k] w fun e w' => e = .returned (.int .i64 k) ∧ w.grownBy w' none := by
  go_enter Try.func37, Try.ntmps37
  go_wp2_with (first | (go_at_call 74; refine (markLds_nil _ _).mono ?_; rintro e w' ⟨rfl, rfl⟩))
  go_ret
  exact ⟨rfl, World.grownBy_alloc _ _ none⟩
theorem heldDk_nil (m : Int) (t : ByteArray) (k : Int) (hk : 0 ≤ k) (w : World) :
    Calls Try.prog 38 #[.agg #[.int .i64 m, .string t, .slice none 0 0], .int .i64 k] w fun e w' => e = .returned (.int .i64 k) ∧ w.grownBy w' none := by
  go_enter Try.func38, Try.ntmps38
  go_wp2_with (first | (go_at_call 75; refine (heldLds_nil _ _).mono ?_; rintro e w' ⟨rfl, rfl⟩))
  go_ret
  exact ⟨rfl, World.grownBy_alloc _ _ none⟩

set_option maxRecDepth 100000 in
set_option maxHeartbeats 4000000 in
theorem FnExactDeskNew_walk (a0 : Int) (_w0 : (Lit.int .i64 a0).wf = true) (w : World) :
    Calls Try.prog 10 #[.int .i64 a0] w fun e w' => e = .returned (.bool true) ∧ Below w.heap.size w w' := by
  obtain ⟨m, s, hk⟩ : ∃ m s, newK a0 = ((m, s), []) := by
    unfold newK
    split
    · exact ⟨_, _, rfl⟩
    · exact ⟨_, _, rfl⟩
  have c1 : ∀ w, Calls Try.prog 22 #[.int .i64 a0] w fun e w' => e = .returned (.tuple #[.agg #[.int .i64 m, .string (bs s), .slice none 0 0], .bool (inB a0 1 6)]) ∧ w.grownBy w' none := by
    intro w; have := snew_any a0 w; rw [hk] at this; exact this
  have c2 : ∀ w, Calls Try.prog 21 #[.int .i64 a0] w fun e w' => e = .returned (.tuple #[.agg #[.int .i64 m, .string (bs s), .slice none 0 0], .bool (inB a0 1 6)]) ∧ w.grownBy w' none := by
    intro w; have := inew_any a0 w; rw [hk] at this; exact this
  have ce : ∀ w, Calls Try.prog 36 #[.agg #[.int .i64 m, .string (bs s), .slice none 0 0], .agg #[.int .i64 m, .string (bs s), .slice none 0 0]] w fun e w' => e = .returned (.bool true) ∧ w.grownBy w' none := fun w => eqDesk_yes m (bs s) none none 0 0 [] w (LdsAt.nil _ _) (LdsAt.nil _ _)
  have hvv : (inB a0 1 6 != inB a0 1 6) = false := by simp
  clear hk
  generalize inB a0 1 6 = u at *
  generalize bs s = t at *
  go_enter Try.func10, Try.ntmps10
  go_wp2_with fail
  refine (c1 _).mono ?_
  rintro e w1 ⟨rfl, g1⟩
  have B1 := CellsAt.new w1 #[.int .i64 m, .string t, .slice none 0 0] 31
  have gA := World.grownBy_alloc w1 (.cells #[.int .i64 m, .string t, .slice none 0 0] 31) none
  go_wp2_with fail
  generalize w1.alloc (.cells #[.int .i64 m, .string t, .slice none 0 0] 31) = W1 at *
  generalize w1.heap.size = b1 at *
  refine (c2 _).mono ?_
  rintro e w2 ⟨rfl, g2⟩
  have C1 := B1.grown g2
  obtain ⟨x0, x1, x2⟩ := C1.three
  have hlt := C1.lt
  have B2 := CellsAt.new w2 #[.int .i64 m, .string t, .slice none 0 0] 31
  have gB := World.grownBy_alloc w2 (.cells #[.int .i64 m, .string t, .slice none 0 0] 31) none
  have HB1 := Lib.hid (C1.grown gB)
  have GA := Lib.hid (grownBy_trans g1 (grownBy_trans gA (grownBy_trans g2 gB)))
  clear g1 gA g2 gB C1 B1
  go_wp2_with fail
  generalize w2.alloc (.cells #[.int .i64 m, .string t, .slice none 0 0] 31) = W2 at *
  generalize w2.heap.size = b2 at *
  have HB2 := Lib.hid B2
  clear B2 x0 x1 x2
  refine (ce _).mono ?_
  rintro e w3 ⟨rfl, g3⟩
  obtain ⟨y0, y1, y2⟩ := (HB2.out.grown g3).three
  have G3 := Lib.hid g3
  clear g3
  go_wp2_with fail
  refine (markDk_nil _ _ _ _).mono ?_
  rintro e w4 ⟨rfl, g4⟩
  have G4 := Lib.hid (grownBy_trans G3.out g4)
  obtain ⟨y0, y1, y2⟩ := (HB2.out.grown G4.out).three
  clear g4
  go_wp2_with fail
  refine (heldDk_nil _ _ _ (by omega) _).mono ?_
  rintro e w5 ⟨rfl, g5⟩
  have G5 := Lib.hid (grownBy_trans G4.out g5)
  clear g5
  go_wp2_with fail
  refine (c2 _).mono ?_
  rintro e w6 ⟨rfl, g6⟩
  have G6 := Lib.hid (grownBy_trans G5.out g6)
  obtain ⟨y0, y1, y2⟩ := (HB2.out.grown G6.out).three
  obtain ⟨x0, x1, x2⟩ := (HB1.out.grown G6.out).three
  have hl1 := (HB1.out.grown G6.out).lt
  have hl2 := (HB2.out.grown G6.out).lt
  clear g6
  go_wp2_with fail
  have gC := World.grownBy_alloc w6 (.cells #[.int .i64 m, .string t, .slice none 0 0] 31) none
  generalize w6.alloc (.cells #[.int .i64 m, .string t, .slice none 0 0] 31) = W6 at *
  have G7 := Lib.hid (grownBy_trans G6.out gC)
  clear gC
  refine (ce _).mono ?_
  rintro e w7 ⟨rfl, g7⟩
  have G8 := Lib.hid (grownBy_trans G7.out g7)
  obtain ⟨y0, y1, y2⟩ := (HB2.out.grown G8.out).three
  clear g7
  go_wp2_with fail
  refine (heldDk_nil _ _ _ (by omega) _).mono ?_
  rintro e w8 ⟨rfl, g8⟩
  go_wp2_with fail
  go_ret
  exact ⟨rfl, below_of (grownBy_trans GA.out (grownBy_trans G8.out g8))⟩

end Go.Proofs.Ytnkebgkocpeonaa

/-
  Deeds counted and copied; desks with rows marked and read again.
-/
namespace Go.Proofs.Ytnkebgkocpeonaa
open Go.RowKit

set_option maxHeartbeats 1000000 in
theorem szDeed_any (n k left : Int) (s : ByteArray) (w : World) (hl : 0 ≤ left ∧ left ≤ 1048576) (hs : s.size ≤ maxLen) :
    Calls Try.prog 39 #[.agg #[.int .i64 n, .int .i64 k, .string s], .int .i64 left] w fun e w' => e = .returned (.int .i64 (if (s.size : Int) ≤ left then left - s.size else -1)) ∧ w.grownBy w' none := by
  have hg := World.grownBy_alloc w (.cells #[.int .i64 n, .int .i64 k, .string s] 61) none
  unfold maxLen at hs
  have hw : IntKind.i64.wrap (left - (s.size : Int)) = left - (s.size : Int) := IntWalk.i64_in _ (by omega)
  have hw2 : wrap64 (left - (s.size : Int)) = left - (s.size : Int) := by unfold wrap64; omega
  by_cases h : (s.size : Int) ≤ left
  · rw [if_pos h]
    go_enter Try.func39, Try.ntmps39
    go_wp2
    go_ret
    exact ⟨rfl, hg⟩
  · rw [if_neg h]
    go_enter Try.func39, Try.ntmps39
    go_wp2
    go_ret
    exact ⟨rfl, hg⟩

set_option maxHeartbeats 1000000 in
theorem toDeed_any (n k : Int) (s : ByteArray) (w : World) :
    Calls Try.prog 40 #[.agg #[.int .i64 n, .int .i64 k, .string s]] w fun e w' => e = .returned (.agg #[.int .i64 n, .int .i64 k, .string s]) ∧ w.grownBy w' none := by
  go_enter Try.func40, Try.ntmps40
  go_wp2
  exact bodyPost_ret (v := .agg #[.int .i64 n, .int .i64 k, .string s]) (resDd rfl _ rfl ((CellsAt.second w _ _ _).grown (World.grownBy_alloc _ _ none))) rfl ⟨rfl, made3 _ _ _ _⟩

set_option maxHeartbeats 1000000 in
theorem markLds_zero (a : Option Addr) (cap : Nat) (k : Int) (w : World) :
    Calls Try.prog 74 #[.slice a 0 cap, .int .i64 k] w fun e w' => e = .returned (.int .i64 k) ∧ w = w' := by
  go_enter Try.func74, Try.ntmps74
  go_wp2
  go_loopw [1, 5] (fun kv iv wr => kv = .int .i64 k ∧ iv = .int .i64 0 ∧ w = wr) (fun _ _ _ => 0)
  case atStart => exact ⟨rfl, rfl, rfl⟩
  case round =>
    obtain ⟨rfl, rfl, rfl⟩ := hrel
    go_wp2
    go_ret
    exact ⟨rfl, rfl⟩

/-- What is left of a row that was marked: its pairs; nothing else changed but its own block. -/
def MarkedD (a : Option Addr) (k n : Nat) (w w' : World) : Prop := LdsAt w' a (mkRow k n) ∧ ∃ row : Option Nat, (∀ g, row = some g → 0 < n ∧ ∃ x, a = some x ∧ x.block = g) ∧ w.grownBy w' row

set_option maxHeartbeats 1000000 in
theorem markDk_any (m : Int) (t : ByteArray) (k base cap : Nat) (a : Option Addr) (xs : List Ld) (hk : 0 < k ∧ k ≤ 10000000) (hn : xs.length ≤ 10000000) (w : World) (h : OwnL w base a xs) :
    Calls Try.prog 37 #[.agg #[.int .i64 m, .string t, .slice a xs.length cap], .int .i64 k] w fun e w' => e = .returned (.int .i64 ((k + 2 * xs.length : Nat) : Int)) ∧ MarkedD a k xs.length w w' := by
  have h2 := h.kept (World.grownBy_alloc w (.cells #[.int .i64 m, .string t, .slice a xs.length cap] 31) none)
  have G0 := Lib.hid (fun row => World.grownBy_alloc w (.cells #[.int .i64 m, .string t, .slice a xs.length cap] 31) row)
  have cm : ∀ W, OwnL W base a xs → Calls Try.prog 74 #[.slice a xs.length cap, .int .i64 k] W fun e w' => e = .returned (.int .i64 ((k + 2 * xs.length : Nat) : Int)) ∧ MarkedD a k xs.length W w' := by
    intro W hW
    by_cases h0 : xs = []
    · subst h0
      refine (markLds_zero a cap k W).mono ?_
      rintro e w' ⟨rfl, rfl⟩
      exact ⟨by simp, LdsAt.nil _ _, none, by simp, grownBy_refl _ _⟩
    · obtain ⟨g, off, cur, rfl, hb, hg, hc⟩ := hW.2.resolve_left h0
      have hpos : 0 < xs.length := List.length_pos_iff.2 h0
      refine (markLds_any k xs.length g off cap cur hk hn W hg ⟨fun j hj => absurd hj (by omega), fun j _ hj => ⟨_, _, hc j hj⟩⟩).mono ?_
      rintro e w' ⟨cur', rfl, h1, h2, h3⟩
      refine ⟨rfl, ?_, some g, fun q hq => ?_, h3⟩
      · refine OwnL.at (base := 0) ⟨by rw [mkRow_len]; exact hW.1, .inr ⟨g, off, cur', rfl, Nat.zero_le _, h1, fun i hi => ?_⟩⟩
        rw [mkRow_len] at hi
        rw [mkRow_at k _ i hi]
        exact h2.1 i hi
      · cases hq
        exact ⟨hpos, _, rfl, rfl⟩
  clear h
  go_enter Try.func37, Try.ntmps37
  go_wp2_with (first | (go_at_call 74; refine (cm _ h2).mono ?_; rintro e w' ⟨rfl, hM⟩))
  go_ret
  obtain ⟨row, hr, hg⟩ := hM.2
  exact ⟨rfl, hM.1, row, hr, grownBy_trans (G0.out _) hg⟩

set_option maxHeartbeats 1000000 in
theorem heldDk_any (m : Int) (t : ByteArray) (k n cap : Nat) (a : Option Addr) (hk : 0 < k ∧ k ≤ 10000000) (hn : n ≤ 10000000) (w : World) (h : LdsAt w a (mkRow k n)) :
    Calls Try.prog 38 #[.agg #[.int .i64 m, .string t, .slice a n cap], .int .i64 k] w fun e w' => e = .returned (.int .i64 ((k + 2 * n : Nat) : Int)) ∧ w.grownBy w' none := by
  have g0 := World.grownBy_alloc w (.cells #[.int .i64 m, .string t, .slice a n cap] 31) none
  have h2 := h.grown g0
  have hp : ¬ ((k + 2 * n : Nat) : Int) < 0 := by omega
  clear h
  go_enter Try.func38, Try.ntmps38
  go_wp2_with (first | (go_at_call 75; refine (heldLds_any k n cap a hk hn _ h2).mono ?_; rintro e w' ⟨rfl, hM⟩))
  all_goals go_ret
  all_goals exact ⟨rfl, grownBy_trans g0 hM⟩

end Go.Proofs.Ytnkebgkocpeonaa

/-
  Rows of deeds: what lies in them; rows that a call made.
-/
namespace Go.Proofs.Ytnkebgkocpeonaa
open Go.RowKit

def nilDd : Dd := (0, 0, [])
/-- The cells of a row of deeds. -/
def ddC : List Dd → List Value
  | [] => []
  | x :: l => .int .i64 x.1 :: .int .i64 x.2.1 :: .string (bs x.2.2) :: ddC l
theorem ddC_len : ∀ l : List Dd, (ddC l).length = l.length * 3
  | [] => rfl
  | x :: l => by show (ddC l).length + 1 + 1 + 1 = (l.length + 1) * 3; rw [ddC_len l]; omega
theorem ddC_app : ∀ l m : List Dd, ddC (l ++ m) = ddC l ++ ddC m
  | [], m => rfl
  | x :: l, m => by show _ :: _ :: _ :: ddC (l ++ m) = _; rw [ddC_app l m]; rfl
theorem ddC_at : ∀ (l : List Dd) (i : Nat), i < l.length → (ddC l)[i * 3]? = some (.int .i64 (l.getD i nilDd).1) ∧ (ddC l)[i * 3 + 1]? = some (.int .i64 (l.getD i nilDd).2.1) ∧ (ddC l)[i * 3 + 2]? = some (.string (bs (l.getD i nilDd).2.2))
  | [], i, h => absurd h (by simp)
  | x :: l, 0, _ => ⟨rfl, rfl, rfl⟩
  | x :: l, i + 1, h => by
    have := ddC_at l i (by simpa using h)
    rw [show (i + 1) * 3 = i * 3 + 1 + 1 + 1 by omega]
    exact this
theorem ddC_one : ∀ (l : List Dd), ∀ u ∈ ddC l, u.oneCell' = true
  | [], u, h => absurd h (by simp [ddC])
  | x :: l, u, h => by
    rcases List.mem_cons.1 h with rfl | h
    · rfl
    · rcases List.mem_cons.1 h with rfl | h
      · rfl
      · rcases List.mem_cons.1 h with rfl | h
        · rfl
        · exact ddC_one l u h
theorem ddC_get {l : List Dd} {j : Nat} {u : Value} (h : (ddC l)[j]? = some u) : ∃ i, i < l.length ∧ ((j = i * 3 ∧ u = .int .i64 (l.getD i nilDd).1) ∨ (j = i * 3 + 1 ∧ u = .int .i64 (l.getD i nilDd).2.1) ∨ (j = i * 3 + 2 ∧ u = .string (bs (l.getD i nilDd).2.2))) := by
  have hj := (List.getElem?_eq_some_iff.1 h).1
  rw [ddC_len] at hj
  have hi : j / 3 < l.length := by omega
  have hc := ddC_at l (j / 3) hi
  refine ⟨j / 3, hi, ?_⟩
  have hm : j % 3 = 0 ∨ j % 3 = 1 ∨ j % 3 = 2 := by omega
  rcases hm with e | e | e
  · have ej : j = j / 3 * 3 := by omega
    rw [ej] at h
    have := h.symm.trans hc.1
    exact .inl ⟨ej, by simpa using this⟩
  · have ej : j = j / 3 * 3 + 1 := by omega
    rw [ej] at h
    have := h.symm.trans hc.2.1
    exact .inr (.inl ⟨ej, by simpa using this⟩)
  · have ej : j = j / 3 * 3 + 2 := by omega
    rw [ej] at h
    have := h.symm.trans hc.2.2
    exact .inr (.inr ⟨ej, by simpa using this⟩)

/-- A row of deeds as it can be read. -/
def DdsAt (w : World) (a : Option Addr) (xs : List Dd) : Prop :=
  xs.length ≤ maxLen ∧ (xs = [] ∨ ∃ b off, a = some ⟨b, off, none⟩ ∧ b < w.heap.size ∧ ∀ i, i < xs.length → w.cell? ⟨b, off + i * 3, none⟩ = some (.int .i64 (xs.getD i nilDd).1) ∧ w.cell? ⟨b, off + i * 3 + 1, none⟩ = some (.int .i64 (xs.getD i nilDd).2.1) ∧ w.cell? ⟨b, off + i * 3 + 2, none⟩ = some (.string (bs (xs.getD i nilDd).2.2)))
theorem DdsAt.kept {w w' : World} {a : Option Addr} {xs : List Dd} {row : Option Nat} (h : DdsAt w a xs) (hg : w.grownBy w' row) (hne : ∀ x, a = some x → some x.block ≠ row) : DdsAt w' a xs := by
  refine ⟨h.1, ?_⟩
  rcases h.2 with h | ⟨b, off, ha, hb, hc⟩
  · exact .inl h
  · exact .inr ⟨b, off, ha, Nat.lt_of_lt_of_le hb hg.size, fun i hi => ⟨(World.cell?_of_block (w := w) (a := ⟨b, off + i * 3, none⟩) (hg.block b hb (hne _ ha))).trans (hc i hi).1, (World.cell?_of_block (w := w) (a := ⟨b, off + i * 3 + 1, none⟩) (hg.block b hb (hne _ ha))).trans (hc i hi).2.1, (World.cell?_of_block (w := w) (a := ⟨b, off + i * 3 + 2, none⟩) (hg.block b hb (hne _ ha))).trans (hc i hi).2.2⟩⟩
theorem DdsAt.grown {w w' : World} {a : Option Addr} {xs : List Dd} (h : DdsAt w a xs) (hg : w.grownBy w' none) : DdsAt w' a xs := h.kept hg (by simp)
theorem DdsAt.nil (w : World) (a : Option Addr) : DdsAt w a [] := ⟨by simp, .inl rfl⟩
theorem DdsAt.take {w : World} {a : Option Addr} {xs : List Dd} (h : DdsAt w a xs) (n : Nat) : DdsAt w a (xs.take n) := by
  refine ⟨Nat.le_trans (by rw [List.length_take]; omega) h.1, ?_⟩
  rcases h.2 with h | ⟨b, off, ha, hb, hc⟩
  · exact .inl (by rw [h, List.take_nil])
  · refine .inr ⟨b, off, ha, hb, fun i hi => ?_⟩
    rw [List.length_take] at hi
    have e : (xs.take n).getD i nilDd = xs.getD i nilDd := by
      rw [List.getD_eq_getElem?_getD, List.getD_eq_getElem?_getD, List.getElem?_take, if_pos (by omega)]
    rw [e]
    exact hc i (by omega)
theorem DdsAt.drop {w : World} {b off : Nat} {xs : List Dd} (h : DdsAt w (some ⟨b, off, none⟩) xs) (n : Nat) : DdsAt w (some ⟨b, off + n * 3, none⟩) (xs.drop n) := by
  refine ⟨Nat.le_trans (by rw [List.length_drop]; omega) h.1, ?_⟩
  rcases h.2 with h | ⟨b', off', ha, hb, hc⟩
  · exact .inl (by rw [h, List.drop_nil])
  · cases ha
    refine .inr ⟨b, off + n * 3, rfl, hb, fun i hi => ?_⟩
    rw [List.length_drop] at hi
    have e : (xs.drop n).getD i nilDd = xs.getD (n + i) nilDd := by
      rw [List.getD_eq_getElem?_getD, List.getD_eq_getElem?_getD, List.getElem?_drop]
    have k := hc (n + i) (by omega)
    rw [show off + (n + i) * 3 = off + n * 3 + i * 3 by omega] at k
    rw [e]
    exact k

/-- A row of deeds that the call owns, from its block's first cell on. -/
def Own3 (w : World) (base : Nat) (a : Option Addr) (cap : Nat) (xs : List Dd) : Prop :=
  w.ownsRow base 39 3 (.slice a xs.length cap) xs.length (ddC xs)
theorem own3_shape {w : World} {base n : Nat} {v : Value} {zs : List Dd} (h : w.ownsRow base 39 3 v n (ddC zs)) : ∃ a cap, v = .slice a zs.length cap ∧ n = zs.length ∧ Own3 w base a cap zs := by
  have hl := h.1
  rw [ddC_len] at hl
  obtain rfl : n = zs.length := by omega
  rcases h.2 with ⟨rfl, h0⟩ | ⟨g, cap, cur, rfl, h1⟩
  · exact ⟨none, 0, by rw [h0], rfl, by unfold Own3; rw [h0]; rw [h0] at h; exact h⟩
  · exact ⟨some ⟨g, 0, none⟩, cap, rfl, rfl, h⟩
theorem Own3.nil (w : World) (base : Nat) : Own3 w base none 0 [] := World.ownsRow_nil _ _ _ _
theorem Own3.made (w : World) : Own3 (w.alloc (.cells #[] 39)) w.heap.size (some ⟨w.heap.size, 0, none⟩) 0 [] := World.ownsRow_made w #[] 0 (Nat.le_refl _) (Nat.zero_le _) rfl
theorem Own3.kept {w w' : World} {base : Nat} {a : Option Addr} {cap : Nat} {zs : List Dd} (h : Own3 w base a cap zs) (hg : w.grownBy w' none) : Own3 w' base a cap zs :=
  World.ownsRow.kept h hg (by cases (Value.slice a zs.length cap).ownBlock <;> simp)
theorem Own3.past {w w' : World} {base b : Nat} {a : Option Addr} {cap : Nat} {zs : List Dd} (h : Own3 w base a cap zs) (hg : w.grownBy w' (some b)) (hb : b < base) : Own3 w' base a cap zs :=
  World.ownsRow.kept h hg (.inr fun e => by have := World.ownsRow.lt h _ e; omega)
theorem Own3.bare {w : World} {base : Nat} {a : Option Addr} {cap : Nat} {zs : List Dd} (h : Own3 w base a cap zs) : a = none → cap = 0 := by
  intro e
  subst e
  rcases h.2 with ⟨h0, _⟩ | ⟨g, c, cur, he, _⟩
  · simp only [Value.slice.injEq] at h0; exact h0.2.2
  · simp at he
theorem Own3.room {w : World} {base : Nat} {a : Option Addr} {cap : Nat} {zs : List Dd} (h : Own3 w base a cap zs) : zs.length ≤ cap ∧ cap ≤ maxLen := by
  rcases h.2 with ⟨h0, h1⟩ | ⟨g, c, cur, he, _, _, hn, hc, _⟩
  · simp only [Value.slice.injEq] at h0
    rw [h1, h0.2.2]; exact ⟨Nat.le_refl _, Nat.zero_le _⟩
  · simp only [Value.slice.injEq, true_and] at he
    rw [he.2]; exact ⟨hn, hc⟩
theorem Own3.mono {w : World} {base base' : Nat} {a : Option Addr} {cap : Nat} {zs : List Dd} (h : Own3 w base a cap zs) (hb : base' ≤ base) : Own3 w base' a cap zs := by
  refine ⟨h.1, ?_⟩
  rcases h.2 with h | ⟨g, c, cur, h1, h2, h3⟩
  · exact .inl h
  · exact .inr ⟨g, c, cur, h1, Nat.le_trans hb h2, h3⟩
theorem Own3.curs {w : World} {base : Nat} {a : Option Addr} {cap : Nat} {zs : List Dd} (h : Own3 w base a cap zs) : zs = [] ∨ ∃ (g : Nat) (cur : Array Value), a = some ⟨g, 0, none⟩ ∧ base ≤ g ∧ w.heap[g]? = some (.cells cur 39 (0, 0)) ∧ ∀ i, i < zs.length → cur[i * 3]? = some (.int .i64 (zs.getD i nilDd).1) ∧ cur[i * 3 + 1]? = some (.int .i64 (zs.getD i nilDd).2.1) ∧ cur[i * 3 + 2]? = some (.string (bs (zs.getD i nilDd).2.2)) := by
  rcases h.2 with ⟨_, h0⟩ | ⟨g, c, cur, he, hb, hg, hnc, hcm, hcs, htake⟩
  · exact .inl (List.length_eq_zero_iff.1 h0)
  · simp only [Value.slice.injEq, true_and] at he
    obtain ⟨rfl, rfl⟩ := he
    refine .inr ⟨g, cur, rfl, hb, hg, fun i hi => ?_⟩
    have k := ddC_at zs i hi
    rw [← htake, List.getElem?_take, if_pos (by omega), List.getElem?_take, if_pos (by omega), List.getElem?_take, if_pos (by omega)] at k
    simpa using k
theorem Own3.at {w : World} {base : Nat} {a : Option Addr} {cap : Nat} {zs : List Dd} (h : Own3 w base a cap zs) : DdsAt w a zs := by
  refine ⟨Nat.le_trans h.room.1 h.room.2, ?_⟩
  rcases h.curs with h | ⟨g, cur, ha, hb, hg, hc⟩
  · exact .inl h
  · refine .inr ⟨g, 0, ha, (Array.getElem?_eq_some_iff.1 hg).1, fun i hi => ?_⟩
    rw [cell_of_row w g _ cur _ (0, 0) hg, cell_of_row w g _ cur _ (0, 0) hg, cell_of_row w g _ cur _ (0, 0) hg, Nat.zero_add]
    exact hc i hi

theorem infoDd : (Try.prog.info? 39).map (fun i => (i.zero, i.size, i.bytes)) = some (some (.agg #[.int .i64 0, .int .i64 0, .string ⟨#[]⟩]), 3, 32) := by kernel_rfl

def DdsPost (xs : List Dd) (w : World) (e : Ending) (w' : World) : Prop :=
  ∃ a cap, e = .returned (.slice a xs.length cap) ∧ Own3 w' w.heap.size a cap xs ∧ w.grownBy w' none
theorem grow_own3 {a b c : World} {base : Nat} {v : Value} {n : Nat} {xs : List Value} {e : TypeId} (h : a.grownBy b none) (ho : b.ownsRow base e 3 v n xs) (hb : a.heap.size ≤ base) (k : b.grownBy c v.ownBlock) : a.grownBy c none :=
  ⟨k.os.trans h.os, k.tape.trans h.tape, k.output.trans h.output, Nat.le_trans h.size k.size, fun i hi _ => by
    refine (k.block i (Nat.lt_of_lt_of_le hi h.size) fun e => ?_).trans (h.block i hi (by simp))
    have := World.ownsRow.lt ho i e.symm
    omega⟩

end Go.Proofs.Ytnkebgkocpeonaa

/-
  Rows of deeds counted, copied and compared: the laws' szDeedS, toDeedS, eqDeedS.
-/
namespace Go.Proofs.Ytnkebgkocpeonaa
open Go.RowKit

theorem getDd_mem {xs : List Dd} {k : Nat} (h : k < xs.length) : xs.getD k nilDd ∈ xs := by
  rw [List.getD_eq_getElem?_getD, List.getElem?_eq_getElem h]
  exact List.getElem_mem h
/-- What szDeedS answers with: something below 0, or a number, few deeds and short texts. -/
def SzDPost (xs : List Dd) (w : World) (e : Ending) (w' : World) : Prop := ∃ v : Int, e = .returned (.int .i64 v) ∧ (v < 0 ∨ (0 ≤ v ∧ v ≤ 1048576 ∧ xs.length ≤ 1048576 ∧ ∀ x ∈ xs, x.2.2.length ≤ 1048576)) ∧ w.grownBy w' none
def SzDd (xs : List Dd) (w : World) (i left : Value) (wr : World) : Prop := ∃ (k : Nat) (l : Int), k ≤ xs.length ∧ i = .int .i64 k ∧ left = .int .i64 l ∧ 0 ≤ l ∧ l ≤ 1048576 ∧ (∀ j, j < k → (xs.getD j nilDd).2.2.length ≤ 1048576) ∧ w.grownBy wr none

set_option maxRecDepth 8000 in
set_option maxHeartbeats 2000000 in
theorem szDeedS_any (left : Int) (a : Option Addr) (cap : Nat) (xs : List Dd) (w : World) (hl : 0 ≤ left ∧ left ≤ 1048576) (h : DdsAt w a xs) (hz : ∀ x ∈ xs, x.2.2.length ≤ maxLen) :
    Calls Try.prog 41 #[.slice a xs.length cap, .int .i64 left] w (SzDPost xs w) := by
  have hm := h.1
  unfold maxLen at hm
  have hw2 : wrap64 (left - (xs.length : Int)) = left - (xs.length : Int) := by unfold wrap64; omega
  have H := Lib.hid h
  have HZ := Lib.hid hz
  clear h hz
  by_cases hle : (xs.length : Int) ≤ left
  · go_enter Try.func41, Try.ntmps41
    have hp : 0 ≤ left - (xs.length : Int) := by omega
    go_wp2
    go_loopw [1, 5] (fun l i wr => SzDd xs w i l wr) (fun _ i _ => xs.length - (intOf i).toNat)
    case atStart => exact ⟨0, left - xs.length, by omega, rfl, rfl, by omega, by omega, fun j hj => absurd hj (by omega), grownBy_refl _ _⟩
    case round =>
      obtain ⟨k, l, hk, rfl, rfl, hl0, hl1, hsm, hgr⟩ := hrel
      have HS := Lib.hid hsm
      clear hsm
      by_cases hlt : k < xs.length
      · have hx2 := H.out.grown hgr
        rcases hx2.2 with h0 | ⟨bx, ox, rfl, hbx, hcx⟩
        · rw [h0] at hlt; simp at hlt
        obtain ⟨c0, c1, c2⟩ := hcx k hlt
        have hzk : (xs.getD k nilDd).2.2.length ≤ maxLen := HZ.out _ (getDd_mem hlt)
        clear hx2 hcx hbx
        have hq3 : Hid ((xs.getD k nilDd).2.2.length ≤ 1048576 → ∀ j, j < k + 1 → (xs.getD j nilDd).2.2.length ≤ 1048576) := Lib.hid fun h j hj => by
          by_cases e : j = k
          · rw [e]; exact h
          · exact HS.out j (by omega)
        generalize xs.getD k nilDd = q at *
        have cs := fun w => szDeed_any q.1 q.2.1 l (bs q.2.2) w ⟨hl0, hl1⟩ (by rw [bs_size]; exact hzk)
        have Hgr := Lib.hid hgr
        clear hgr
        by_cases hq : ((bs q.2.2).size : Int) ≤ l
        · simp only [if_pos hq] at cs
          have hq0 : 0 ≤ l - ((bs q.2.2).size : Int) := by omega
          have hqq := Lib.hid (hq3.out (by rw [bs_size] at hq; omega))
          clear hq3
          go_wp2_with (first | (go_at_call 39; refine (cs _).mono ?_; rintro e w' ⟨rfl, hg⟩))
          go_roundw
          case rel => exact ⟨k + 1, l - ((bs q.2.2).size : Int), by omega, by go_num, rfl, hq0, by omega, hqq.out, grownBy_trans Hgr.out hg⟩
          case measure => simp [intOf]; omega
        · simp only [if_neg hq] at cs
          clear hq3
          go_wp2_with (first | (go_at_call 39; refine (cs _).mono ?_; rintro e w' ⟨rfl, hg⟩))
          go_ret
          exact ⟨_, rfl, .inl (by decide), grownBy_trans Hgr.out hg⟩
      · obtain rfl : k = xs.length := by omega
        have Hgr := Lib.hid hgr
        clear hgr
        go_wp2
        go_ret
        refine ⟨l, rfl, .inr ⟨hl0, hl1, by omega, fun x hx => ?_⟩, Hgr.out⟩
        obtain ⟨j, hj, rfl⟩ := List.mem_iff_getElem.1 hx
        have := HS.out j hj
        rwa [List.getD_eq_getElem?_getD, List.getElem?_eq_getElem hj] at this
  · go_enter Try.func41, Try.ntmps41
    go_wp2
    go_ret
    exact ⟨_, rfl, .inl (by omega), grownBy_refl _ _⟩

def CpDd (g : Nat) (xs : List Dd) (w : World) (i : Value) (wr : World) : Prop :=
  ∃ (k : Nat) (vs : List Value), k ≤ xs.length ∧ i = .int .i64 k ∧ wr.ownsRow w.heap.size 39 3 (.slice (some ⟨g, 0, none⟩) xs.length xs.length) xs.length vs ∧ (∀ j, j < k → vs[j * 3]? = some (.int .i64 (xs.getD j nilDd).1) ∧ vs[j * 3 + 1]? = some (.int .i64 (xs.getD j nilDd).2.1) ∧ vs[j * 3 + 2]? = some (.string (bs (xs.getD j nilDd).2.2))) ∧ w.grownBy wr none
theorem own3_copied {g : Nat} {xs : List Dd} {w wr : World} {vs : List Value} (h : wr.ownsRow w.heap.size 39 3 (.slice (some ⟨g, 0, none⟩) xs.length xs.length) xs.length vs) (hx : ∀ j, j < xs.length → vs[j * 3]? = some (.int .i64 (xs.getD j nilDd).1) ∧ vs[j * 3 + 1]? = some (.int .i64 (xs.getD j nilDd).2.1) ∧ vs[j * 3 + 2]? = some (.string (bs (xs.getD j nilDd).2.2))) : Own3 wr w.heap.size (some ⟨g, 0, none⟩) xs.length xs := by
  have e : vs = ddC xs := by
    apply List.ext_getElem?
    intro j
    by_cases hj : j < xs.length * 3
    · have hk : j / 3 < xs.length := by omega
      have k1 := hx _ hk
      have k2 := ddC_at xs _ hk
      have hm : j % 3 = 0 ∨ j % 3 = 1 ∨ j % 3 = 2 := by omega
      rcases hm with q | q | q
      · rw [show j = j / 3 * 3 by omega, k1.1, k2.1]
      · rw [show j = j / 3 * 3 + 1 by omega, k1.2.1, k2.2.1]
      · rw [show j = j / 3 * 3 + 2 by omega, k1.2.2, k2.2.2]
    · rw [List.getElem?_eq_none (by rw [h.1]; omega), List.getElem?_eq_none (by rw [ddC_len]; omega)]
  unfold Own3
  rw [← e]
  exact h
theorem three_set {vs : List Value} {xs : List Dd} {k : Nat} (hl : vs.length = xs.length * 3) (hk : k < xs.length) (hxs : ∀ j, j < k → vs[j * 3]? = some (.int .i64 (xs.getD j nilDd).1) ∧ vs[j * 3 + 1]? = some (.int .i64 (xs.getD j nilDd).2.1) ∧ vs[j * 3 + 2]? = some (.string (bs (xs.getD j nilDd).2.2))) (m n : Int) (t : ByteArray) (hm : m = (xs.getD k nilDd).1) (hn : n = (xs.getD k nilDd).2.1) (ht : t = bs (xs.getD k nilDd).2.2) :
    ∀ j, j < k + 1 → (((vs.set (k * 3) (.int .i64 m)).set (k * 3 + 1) (.int .i64 n)).set (k * 3 + 2) (.string t))[j * 3]? = some (.int .i64 (xs.getD j nilDd).1) ∧ (((vs.set (k * 3) (.int .i64 m)).set (k * 3 + 1) (.int .i64 n)).set (k * 3 + 2) (.string t))[j * 3 + 1]? = some (.int .i64 (xs.getD j nilDd).2.1) ∧ (((vs.set (k * 3) (.int .i64 m)).set (k * 3 + 1) (.int .i64 n)).set (k * 3 + 2) (.string t))[j * 3 + 2]? = some (.string (bs (xs.getD j nilDd).2.2)) := by
  subst hm hn ht
  intro j hj
  by_cases e : j = k
  · subst e
    refine ⟨?_, ?_, ?_⟩
    · rw [List.getElem?_set_ne (by omega), List.getElem?_set_ne (by omega), List.getElem?_set_self (by omega)]
    · rw [List.getElem?_set_ne (by omega), List.getElem?_set_self (by rw [List.length_set]; omega)]
    · rw [List.getElem?_set_self (by rw [List.length_set, List.length_set]; omega)]
  · refine ⟨?_, ?_, ?_⟩
    · rw [List.getElem?_set_ne (by omega), List.getElem?_set_ne (by omega), List.getElem?_set_ne (by omega)]; exact (hxs j (by omega)).1
    · rw [List.getElem?_set_ne (by omega), List.getElem?_set_ne (by omega), List.getElem?_set_ne (by omega)]; exact (hxs j (by omega)).2.1
    · rw [List.getElem?_set_ne (by omega), List.getElem?_set_ne (by omega), List.getElem?_set_ne (by omega)]; exact (hxs j (by omega)).2.2

set_option maxRecDepth 8000 in
set_option maxHeartbeats 2000000 in
theorem toDeedS_any (a : Option Addr) (cap : Nat) (xs : List Dd) (hn : xs.length ≤ 100000000) (w : World) (h : DdsAt w a xs) :
    Calls Try.prog 42 #[.slice a xs.length cap] w (DdsPost xs w) := by
  obtain ⟨i0, hi, hz0, hz1, hz2⟩ := info_parts infoDd
  have Hh := Lib.hid h
  clear h
  go_enter Try.func42, Try.ntmps42
  go_wp2_with (at_make; refine wpList_make_full _ rfl _ _ 44 rfl w.heap.size 39 i0 (.agg #[.int .i64 0, .int .i64 0, .string ⟨#[]⟩]) 3 Try.underlying44 hi hz0 hz1 .i64 .i64 _ _ xs.length rfl rfl rfl rfl ?b2 ?b3 (Nat.le_refl _) ?_)
  case b2 => rw [hz2]; omega
  case b3 => unfold maxLen; omega
  intro w0 hown0 hgrow0
  go_wp2
  go_loopw [4] (fun i wr => CpDd w.heap.size xs w i wr) (fun i _ => xs.length - (intOf i).toNat)
  case atStart => exact ⟨0, _, by omega, rfl, hown0, fun j hj => absurd hj (by omega), hgrow0⟩
  case round =>
    obtain ⟨k, vs, hk, rfl, hown, hxs, hgr⟩ := hrel
    by_cases hlt : k < xs.length
    · have hx2 := Hh.out.grown hgr
      rcases hx2.2 with h0 | ⟨bx, ox, rfl, hbx, hcx⟩
      · rw [h0] at hlt; simp at hlt
      obtain ⟨c0, c1, c2⟩ := hcx k hlt
      have ct := fun w => toDeed_any (xs.getD k nilDd).1 (xs.getD k nilDd).2.1 (bs (xs.getD k nilDd).2.2) w
      have hxl := hown.1
      have HO := Lib.hid hown
      have HG := Lib.hid hgr
      have hnw := Lib.hid (three_set hown.1 hlt hxs _ _ _ rfl rfl rfl)
      clear hown hgr hx2 hcx hbx hxs
      generalize (xs.getD k nilDd).1 = n at *
      generalize (xs.getD k nilDd).2.1 = m at *
      generalize bs (xs.getD k nilDd).2.2 = t at *
      go_wp2_with (first | (go_at_call 40; refine (ct _).mono ?_; rintro e w2 ⟨rfl, hg⟩; have ho2 := HO.out.kept hg (by simp [Value.ownBlock]); have hst := Lib.hid (World.ownsRow.stored ho2 (k * 3) (.int .i64 n)); have hsu := Lib.hid (World.ownsRow.stored hst.out.1 (k * 3 + 1) (.int .i64 m)); have hsv := Lib.hid (World.ownsRow.stored hsu.out.1 (k * 3 + 2) (.string t)); have hgg := Lib.hid (grow_own3 (grow_own3 (grow_own3 (grownBy_trans HG.out hg) ho2 (Nat.le_refl _) hst.out.2) hst.out.1 (Nat.le_refl _) hsu.out.2) hsu.out.1 (Nat.le_refl _) hsv.out.2); have f0 := World.ownsRow.frozenAt ho2 (k * 3); have f1 := World.ownsRow.frozenAt ho2 (k * 3 + 1); have f2 := World.ownsRow.frozenAt ho2 (k * 3 + 2); have e0 := World.ownsRow.cellAt ho2 (k * 3) (by omega); have e1 := World.ownsRow.cellAt ho2 (k * 3 + 1) (by omega); have e2 := World.ownsRow.cellAt ho2 (k * 3 + 2) (by omega); rw [List.getElem?_eq_getElem (by omega)] at e0 e1 e2; clear ho2))
      go_roundw
      case rel => exact ⟨k + 1, _, by omega, by go_num, hsv.out.1, hnw.out, hgg.out⟩
      case measure => simp [intOf]; omega
    · obtain rfl : k = xs.length := by omega
      have hs := Lib.hid (own3_copied hown hxs)
      have Hg := Lib.hid hgr
      clear hown hxs hgr
      go_wp2
      go_ret
      exact ⟨_, _, rfl, hs.out, Hg.out⟩

set_option maxHeartbeats 1000000 in
theorem eqDeed_yes (n k : Int) (t : ByteArray) (w : World) :
    Calls Try.prog 76 #[.agg #[.int .i64 n, .int .i64 k, .string t], .agg #[.int .i64 n, .int .i64 k, .string t]] w fun e w' => e = .returned (.bool true) ∧ w.grownBy w' none := by
  go_enter Try.func76, Try.ntmps76
  go_wp2
  go_ret
  exact ⟨rfl, grownBy_trans (World.grownBy_alloc _ _ none) (World.grownBy_alloc _ _ none)⟩

def EqRelD (xs : List Dd) (w : World) (i : Value) (wr : World) : Prop := ∃ k : Nat, k ≤ xs.length ∧ i = .int .i64 k ∧ w.grownBy wr none

set_option maxRecDepth 8000 in
set_option maxHeartbeats 2000000 in
theorem eqDeedS_yes (a b : Option Addr) (ca cb : Nat) (xs : List Dd) (w : World) (hx : DdsAt w a xs) (hy : DdsAt w b xs) :
    Calls Try.prog 43 #[.slice a xs.length ca, .slice b xs.length cb] w fun e w' => e = .returned (.bool true) ∧ w.grownBy w' none := by
  have hm := hx.1
  unfold maxLen at hm
  have HX := Lib.hid hx
  have HY := Lib.hid hy
  clear hx hy
  go_enter Try.func43, Try.ntmps43
  go_wp2
  go_loopw [5] (fun i wr => EqRelD xs w i wr) (fun i _ => xs.length - (intOf i).toNat)
  case atStart => exact ⟨0, by omega, rfl, grownBy_refl _ _⟩
  case round =>
    obtain ⟨k, hk, rfl, hgr⟩ := hrel
    have Hgr := Lib.hid hgr
    clear hgr
    by_cases hlt : k < xs.length
    · rcases (HX.out.grown Hgr.out).2 with h0 | ⟨bx, ox, rfl, _, hcx⟩
      · rw [h0] at hlt; simp at hlt
      rcases (HY.out.grown Hgr.out).2 with h0 | ⟨by', oy, rfl, _, hcy⟩
      · rw [h0] at hlt; simp at hlt
      obtain ⟨x0, x1, x2⟩ := hcx k hlt
      obtain ⟨y0, y1, y2⟩ := hcy k hlt
      clear hcx hcy
      generalize xs.getD k nilDd = q at *
      go_wp2_with fail
      go_region_with (go_at_call 76; refine (eqDeed_yes _ _ _ _).mono ?_; rintro e w' ⟨rfl, hg⟩)
      all_goals go_wp2_with fail
      all_goals go_roundw
      all_goals first | (simp [intOf]; omega) | exact ⟨k + 1, by omega, by go_num, grownBy_trans Hgr.out (drew_grown hg)⟩ | exact ⟨k + 1, by omega, by go_num, grownBy_trans Hgr.out (grownBy_trans (grownBy_drewN (grownBy_refl _ _) _) hg)⟩
    · obtain rfl : k = xs.length := by omega
      go_wp2
      go_ret
      exact ⟨rfl, Hgr.out⟩

end Go.Proofs.Ytnkebgkocpeonaa

/-
  The draws of chapter 12: deeds.
-/
namespace Go.Proofs.Ytnkebgkocpeonaa
open Go.RowKit

def DdsRel (w0 : World) (r P : Nat) (kv ov : Value) (wr : World) : Prop :=
  ∃ (j : Nat) (l : List Dd) (a : Option Addr) (cap : Nat), kv = .int .i64 j ∧ ov = .slice a l.length cap ∧ l.length + j ≤ 5 ∧ Own3 wr w0.heap.size a cap l ∧ (∃ g, a = some ⟨g, 0, none⟩) ∧ (∀ x ∈ l, x.2.2.length ≤ 100) ∧ Rd wr r (P + 501 - j * 100) ∧ w0.grownBy wr (some r)
def DdsDraw (r P : Nat) (w : World) (e : Ending) (w' : World) : Prop := ∃ (l : List Dd) (a : Option Addr) (cap : Nat), e = .returned (.slice a l.length cap) ∧ l.length ≤ 5 ∧ Own3 w' w.heap.size a cap l ∧ (∃ g, a = some ⟨g, 0, none⟩) ∧ (∀ x ∈ l, x.2.2.length ≤ 100) ∧ Rd w' r (P + 600) ∧ w.grownBy w' (some r)
theorem own3_more {w : World} {base : Nat} {v : Value} {xs : List Dd} {x : Dd} (h : w.ownsRow base 39 3 v (xs.length + 1) (ddC xs ++ ddC [x])) : ∃ a cap, v = .slice a (xs.length + 1) cap ∧ Own3 w base a cap (xs ++ [x]) := by
  rw [← ddC_app] at h
  obtain ⟨a, cap, e, hl, ho⟩ := own3_shape h
  have hx : (xs ++ [x]).length = xs.length + 1 := by simp
  rw [hx] at e
  exact ⟨a, cap, e, ho⟩
theorem ddC_news {W : World} {b : Nat} {D : Dd} (h : CellsAt W b #[.int .i64 D.1, .int .i64 D.2.1, .string (bs D.2.2)] 39) : ∀ j u, (ddC [D])[j]? = some u → W.cell? ((⟨b, 0, none⟩ : Addr).add j) = some u := by
  intro j u hu
  rw [add_none]
  match j, hu with
  | 0, hu => cases hu; exact h.cell rfl
  | 1, hu => cases hu; exact h.cell rfl
  | 2, hu => cases hu; exact h.cell rfl
theorem grown_own3 {w0 w w' : World} {r base : Nat} {a : Option Addr} {cap : Nat} {xs : List Dd} (g : w0.grownBy w (some r)) (o : Own3 w base a cap xs) (hb : w0.heap.size ≤ base) (hg : w.grownBy w' (Value.slice a xs.length cap).ownBlock) : w0.grownBy w' (some r) :=
  ⟨hg.os.trans g.os, hg.tape.trans g.tape, hg.output.trans g.output, Nat.le_trans g.size hg.size, fun k hk hn => (hg.block k (Nat.lt_of_lt_of_le hk g.size) (fun e => by have := World.ownsRow.lt o k e.symm; omega)).trans (g.block k hk hn)⟩
theorem rd_own3 {w w' : World} {r P base : Nat} {a : Option Addr} {cap : Nat} {xs : List Dd} (hr : Rd w r P) (o : Own3 w base a cap xs) (hb : r < base) (hg : w.grownBy w' (Value.slice a xs.length cap).ownBlock) : Rd w' r P :=
  hr.kept fun k hk => hg.block k (by have := hr.lt; omega) fun e => by have := World.ownsRow.lt o k e.symm; omega

theorem Own3.way {w : World} {base : Nat} {a : Option Addr} {cap : Nat} {zs : List Dd} (h : Own3 w base a cap zs) : (a = none ∧ zs = []) ∨ ∃ g, a = some ⟨g, 0, none⟩ := by
  rcases h.2 with ⟨h0, h1⟩ | ⟨g, c, cur, he, _⟩
  · simp only [Value.slice.injEq] at h0
    exact .inl ⟨h0.1, List.length_eq_zero_iff.1 h1⟩
  · simp only [Value.slice.injEq] at he
    exact .inr ⟨g, he.1⟩

set_option maxRecDepth 8000 in
set_option maxHeartbeats 4000000 in
theorem deeds_draw (w : World) (r P : Nat) (hr : Rd w r P) (hP : P ≤ 40000) :
    Calls Try.prog 69 #[.pointer (some ⟨r, 0, none⟩)] w (DdsDraw r P w) := by
  have hlt := hr.lt
  obtain ⟨i0, hi, hz0, hz1, hz2⟩ := info_parts infoDd
  have hr0 := hr.alloc (.cells #[] 39)
  go_enter Try.func69, Try.ntmps69
  go_wp2_with fail
  refine (pick_any _ _ _ _ hr0 (by omega)).mono ?_
  rintro e w1 ⟨j0, rfl, hj0, hj1, hr1, hg1⟩
  obtain ⟨j0, rfl⟩ := Int.eq_ofNat_of_zero_le hj0
  have hInit : Hid (DdsRel w r P (.int .i64 (j0 : Int)) (.slice (some ⟨w.heap.size, 0, none⟩) 0 0) w1) := ⟨j0, [], _, 0, rfl, rfl, by simp; omega, (Own3.made w).past hg1 hlt, ⟨_, rfl⟩, by simp, hr1.mono (by omega), grownBy_trans (World.grownBy_alloc _ _ _) hg1⟩
  clear hr0 hr1 hg1 hr
  go_wp2_with fail
  go_loopw [4, 3] (fun kv ov wr => DdsRel w r P kv ov wr) (fun kv _ _ => (intOf kv).toNat)
  case atStart => exact hInit.out
  case round =>
    obtain ⟨j, l, a, cap, rfl, rfl, hlj, ho, hsome, hl, hrr, hgw⟩ := hrel
    by_cases hz : j = 0
    · subst hz
      have R := Lib.hid (show Own3 wr w.heap.size a cap l ∧ (∀ x ∈ l, x.2.2.length ≤ 100) ∧ Rd wr r (P + 501 - 0 * 100) ∧ w.grownBy wr (some r) from ⟨ho, hl, hrr, hgw⟩)
      clear ho hl hrr hgw
      go_wp2_with fail
      go_ret
      exact ⟨l, a, cap, rfl, by omega, R.out.1, hsome, R.out.2.1, R.out.2.2.1.mono (by omega), R.out.2.2.2⟩
    · have HO := Lib.hid ho
      have HL := Lib.hid hl
      have HG := Lib.hid hgw
      have hpos : 0 < (j : Int) := by omega
      clear ho hl hgw
      go_wp2_with fail
      refine (deed_draw _ r (P + 501 - j * 100) hrr (by omega)).mono ?_
      rintro e wa ⟨D, rfl, hDl, hra, hga⟩
      have gX := World.grownBy_alloc wa (.cells #[.int .i64 D.1, .int .i64 D.2.1, .string (bs D.2.2)] 39) none
      have HA := Lib.hid ((HO.out.past hga hlt).kept gX)
      have HN := Lib.hid (CellsAt.new wa #[.int .i64 D.1, .int .i64 D.2.1, .string (bs D.2.2)] 39)
      have HR := Lib.hid (hra.grown gX)
      have G1 := Lib.hid (grownBy_trans (grownBy_trans HG.out hga) (grown_none gX))
      have hsz : w.heap.size ≤ (wa.alloc (.cells #[.int .i64 D.1, .int .i64 D.2.1, .string (bs D.2.2)] 39)).heap.size := G1.out.size
      clear hrr hra hga gX
      go_wp2_with (at_builtin; refine wpList_append_own _ rfl _ _ 44 rfl w.heap.size 39 i0 (.agg #[.int .i64 0, .int .i64 0, .string ⟨#[]⟩]) 3 32 Try.underlying44 hi hz0 hz1 hz2 rfl (by decide) _ _ _ rfl HA.out ⟨wa.heap.size, 0, none⟩ 1 1 (ddC [D]) rfl rfl (ddC_news HN.out) (ddC_one [D]) (by unfold maxLen; omega) (by omega) hsz ?_; intro v' w4 hown' hgrow _; obtain ⟨a4, cap4, rfl, ho4⟩ := own3_more hown'; have R4 := Lib.hid (rd_own3 HR.out HA.out hlt hgrow); have G4 := Lib.hid (grown_own3 G1.out HA.out (Nat.le_refl _) hgrow); clear hown' hgrow)
      go_roundw
      case rel => exact ⟨j - 1, l ++ [D], a4, cap4, by congr 1; omega, by simp, by simp; omega, ho4, ho4.way.resolve_left fun q => by simp at q, fun x hx => by
          rcases List.mem_append.1 hx with h | h
          · exact HL.out x h
          · rw [List.mem_singleton] at h; rw [h]; exact hDl, R4.out.mono (by omega), G4.out⟩
      case measure => simp [intOf]; omega

end Go.Proofs.Ytnkebgkocpeonaa

/-
  The draw of a desk with deeds.
-/
namespace Go.Proofs.Ytnkebgkocpeonaa
open Go.RowKit

def nil41 : List Dd := List.replicate 41 nilDd
theorem mk41_run (w : World) : (Instr.makeSlice 44 (.int .i64 41) (.int .i64 41)).run Try.prog w = .ok (.slice (some ⟨w.heap.size, 0, none⟩) 41 41) (w.alloc (.cells (ddC nil41).toArray 39)) := by kernel_rfl
theorem at41 {w : World} {b : Nat} (h : CellsAt w b (ddC nil41).toArray 39) : DdsAt w (some ⟨b, 0, none⟩) nil41 := by
  refine ⟨by decide, .inr ⟨b, 0, rfl, h.lt, fun i hi => ?_⟩⟩
  have hc := ddC_at nil41 i hi
  refine ⟨?_, ?_, ?_⟩
  · exact h.cell (by rw [Nat.zero_add, List.getElem?_toArray]; exact hc.1)
  · exact h.cell (by rw [Nat.zero_add, List.getElem?_toArray]; exact hc.2.1)
  · exact h.cell (by rw [Nat.zero_add, List.getElem?_toArray]; exact hc.2.2)

/-- Where a row of deeds begins. -/
def DdsWay (b : Option Addr) (l : List Dd) (capb : Nat) : Prop := l.length ≤ capb ∧ capb ≤ maxLen ∧ ∃ g, b = some ⟨g, 0, none⟩
def DrunPost (w : World) (e : Ending) (w' : World) : Prop := ∃ (d : Dk) (a : Option Addr) (cap : Nat) (l : List Dd) (b : Option Addr) (capb : Nat), e = .returned (.tuple #[dkV d a cap, .slice b l.length capb]) ∧ LdsAt w' a d.2 ∧ (a = none → cap = 0) ∧ DdsAt w' b l ∧ DdsWay b l capb ∧ (∀ x ∈ l, x.2.2.length ≤ 100) ∧ w.grownBy w' none

/-- What lies where while the desk and the deeds are handed out. -/
def DrS (w0 W : World) (c : Nat) (u v x m s y : Value) : Prop :=
  CellsAt W w0.heap.size #[u, v, x] 31 ∧ CellsAt W c #[m, s, y] 31 ∧ w0.grownBy W none ∧ w0.heap.size + 1 < c
theorem DrS.facts {w0 W : World} {c : Nat} {u v x m s y : Value} (h : DrS w0 W c u v x m s y) : DdF W w0.heap.size u v x ∧ DdF W c m s y := ⟨three_facts h.1, three_facts h.2.1⟩
theorem DrS.put {w0 W : World} {c : Nat} {u v x m s y : Value} (h : DrS w0 W c u v x m s y) (a b d : Value) : DrS w0 (((W.setCell ⟨w0.heap.size, 0, none⟩ a).setCell ⟨w0.heap.size, 1, none⟩ b).setCell ⟨w0.heap.size, 2, none⟩ d) c a b d m s y :=
  ⟨h.1.put3 _ _ _, h.2.1.kept (put3_past W _ _ _ _) (by have := h.2.2.2; simp; omega), put3_grown _ h.2.2.1 (Nat.le_refl _) _ _ _, h.2.2.2⟩
theorem DrS.call {w0 W W' : World} {c : Nat} {u v x m s y : Value} (h : DrS w0 W c u v x m s y) (hg : W.grownBy W' (some (w0.heap.size + 1))) : DrS w0 W' c u v x m s y :=
  ⟨h.1.kept hg (by simp), h.2.1.kept hg (by have := h.2.2.2; simp; omega), ⟨hg.os.trans h.2.2.1.os, hg.tape.trans h.2.2.1.tape, hg.output.trans h.2.2.1.output, Nat.le_trans h.2.2.1.size hg.size, fun k hk _ => (hg.block k (Nat.lt_of_lt_of_le hk h.2.2.1.size) (by simp; omega)).trans (h.2.2.1.block k hk (by simp))⟩, h.2.2.2⟩
theorem DrS.drew {w0 W : World} {c : Nat} {u v x m s y : Value} (h : DrS w0 W c u v x m s y) : DrS w0 W.drew c u v x m s y := ⟨h.1, h.2.1, grownBy_drew h.2.2.1, h.2.2.2⟩
theorem DrS.alloc {w0 W : World} {c : Nat} {u v x m s y : Value} (h : DrS w0 W c u v x m s y) (X : Obj) : DrS w0 (W.alloc X) c u v x m s y :=
  ⟨h.1.grown (World.grownBy_alloc _ _ none), h.2.1.grown (World.grownBy_alloc _ _ none), grownBy_trans h.2.2.1 (World.grownBy_alloc _ _ none), h.2.2.2⟩

set_option maxRecDepth 8000 in
set_option maxHeartbeats 8000000 in
theorem DrawDeskRun_any (HD : DeedC) (a : Option Addr) (len cap : Nat) (zs : List Int) (w : World) (h : IsRow .u8 w a len cap zs) :
    Calls Try.prog 29 #[.slice a len cap] w (DrunPost w) := by
  have g0 := World.grownBy_alloc w (.cells #[.int .i64 0, .string ⟨#[]⟩, .slice none 0 0] 31) none
  have hB := CellsAt.new w #[.int .i64 0, .string ⟨#[]⟩, .slice none 0 0] 31
  have ha := h.up g0
  have hR : (w.alloc (.cells #[.int .i64 0, .string ⟨#[]⟩, .slice none 0 0] 31)).heap.size = w.heap.size + 1 := by show (w.heap.push _).size = _; rw [Array.size_push]
  have HR := Lib.hid hR
  have co := open_draw a len cap zs _ ha
  unfold OpenPost at co
  rw [hR] at co
  have HB := Lib.hid hB
  have G0 := Lib.hid g0
  clear h hB g0 hR ha
  go_enter Try.func29, Try.ntmps29
  go_wp2_with fail
  refine co.mono ?_
  rintro e w1 ⟨rfl, hr1, hg1⟩
  have cd := desk_draw HD 12 w1 (w.heap.size + 1) 0 hr1 (by omega) (by omega) (by omega)
  have hl1 := hr1.lt
  clear co
  go_wp2_with fail
  refine cd.mono ?_
  rintro e w2 ⟨d, a, cap, rfl, ho, hr2, hg2⟩
  obtain ⟨⟨m, s⟩, xs⟩ := d
  have hgg := grownBy_own hg1 (by rw [HR.out]; exact hg2)
  have hl2 := hr2.lt
  have S0 := Lib.hid (show DrS w (w2.alloc (.cells #[.int .i64 m, .string (bs s), .slice a xs.length cap] 31)) w2.heap.size (.int .i64 0) (.string ⟨#[]⟩) (.slice none 0 0) (.int .i64 m) (.string (bs s)) (.slice a xs.length cap) from ⟨(HB.out.grown hgg).grown (World.grownBy_alloc _ _ none), CellsAt.new w2 _ _, grownBy_trans (grownBy_trans G0.out hgg) (World.grownBy_alloc _ _ none), hl2⟩)
  have hr3 := hr2.alloc (.cells #[.int .i64 m, .string (bs s), .slice a xs.length cap] 31)
  have ho3 := Lib.hid (ho.kept (World.grownBy_alloc w2 (.cells #[.int .i64 m, .string (bs s), .slice a xs.length cap] 31) none))
  clear ho hr2 hg2 hg1 hr1 hgg cd
  unfold dkV
  go_wp2_with fail
  generalize w2.alloc (.cells #[.int .i64 m, .string (bs s), .slice a xs.length cap] 31) = W at *
  generalize w2.heap.size = c at *
  refine (odd_any _ _ _ _ hr3 (by omega) (by omega) (by omega)).mono ?_
  rintro e wo ⟨bo, rfl, hro, hgo⟩
  have S1 := Lib.hid (S0.out.call hgo)
  have ho4 := Lib.hid (ho3.out.past hgo (by omega))
  obtain ⟨⟨⟨d0, d1, d2⟩, f0, f1, f2⟩, ⟨⟨z0, z1, z2⟩, y0, y1, y2⟩⟩ := S1.out.facts
  clear hr3 hgo
  cases bo
  · have hro2 : Hid (w.heap.size + 2 ≤ wo.drew.heap.size) := Lib.hid (show w.heap.size + 2 ≤ wo.heap.size by have := hro.lt; omega)
    go_wp2_with fail
    have KS : Hid (∀ (w' : World) (u v x : Value), DrS w w' c u v x (.int .i64 m) (.string (bs s)) (.slice a xs.length cap) → w'.cell? ⟨c, 0, none⟩ = some (.int .i64 m) ∧ w'.cell? ⟨c, 1, none⟩ = some (.string (bs s)) ∧ w'.cell? ⟨c, 2, none⟩ = some (.slice a xs.length cap)) := fun w' u v x h => h.2.1.three
    go_region_held3 (fun w' => w'.cell? ⟨c, 0, none⟩ = some (.int .i64 m) ∧ w'.cell? ⟨c, 1, none⟩ = some (.string (bs s)) ∧ w'.cell? ⟨c, 2, none⟩ = some (.slice a xs.length cap)) (first | exact KS.out _ _ _ _ S1.out.drew | exact KS.out _ _ _ _ S2.out | exact KS.out _ _ _ _ S3.out) (first | (go_at_call 69; (with_reducible refine (deeds_draw _ (w.heap.size + 1) 701 hro.drewn (by omega)).mono ?_); rintro e wa ⟨l, b, capb, rfl, hll, hol, hsome, hDl, hra, hga⟩; have h1 := Lib.hid (grownBy_undrew hga); have S2 := Lib.hid (S1.out.call h1.out); have S3 := Lib.hid (S2.out.put (.int .i64 m) (.string (bs s)) (.slice a xs.length cap)); have HO := Lib.hid ((ho4.out.past h1.out (by omega)).past (put3_past wa w.heap.size (.int .i64 m) (.string (bs s)) (.slice a xs.length cap)) (by omega)); have HL := Lib.hid ((hol.mono (base' := w.heap.size + 2) hro2.out).past (put3_past wa w.heap.size (.int .i64 m) (.string (bs s)) (.slice a xs.length cap)) (by omega)); obtain ⟨⟨⟨d0, d1, d2⟩, f0, f1, f2⟩, ⟨⟨z0, z1, z2⟩, y0, y1, y2⟩⟩ := S2.out.facts))
    all_goals go_wp2_with fail
    all_goals exact bodyPost_ret (v := .tuple #[.agg #[.int .i64 m, .string (bs s), .slice a xs.length cap], .slice b l.length capb]) (resDkB (b := .slice b l.length capb) rfl _ rfl rfl S3.out.1) rfl ⟨((m, s), xs), a, cap, l, b, capb, rfl, HO.out.at, HO.out.bare, HL.out.at, ⟨HL.out.room.1, HL.out.room.2, hsome⟩, hDl, S3.out.2.2.1⟩
  · have hm1 := mk41_run
    have SA := Lib.hid (S1.out.alloc (.cells (ddC nil41).toArray 39))
    have HN := Lib.hid (CellsAt.new wo (ddC nil41).toArray 39)
    have gN := World.grownBy_alloc wo (.cells (ddC nil41).toArray 39) none
    have hA := Lib.hid (ho4.out.kept gN)
    have hlo := hro.lt
    have HAT := Lib.hid (show ∀ (W' : World) (b : Nat), CellsAt W' b (ddC nil41).toArray 39 → DdsAt W' (some ⟨b, 0, none⟩) nil41 from fun _ _ h => at41 h)
    have hsz : (((wo.setCell ⟨w.heap.size, 0, none⟩ (.int .i64 m)).setCell ⟨w.heap.size, 1, none⟩ (.string (bs s))).setCell ⟨w.heap.size, 2, none⟩ (.slice a xs.length cap)).heap.size = wo.heap.size := by simp
    have HM := Lib.hid (CellsAt.new (((wo.setCell ⟨w.heap.size, 0, none⟩ (.int .i64 m)).setCell ⟨w.heap.size, 1, none⟩ (.string (bs s))).setCell ⟨w.heap.size, 2, none⟩ (.slice a xs.length cap)) (ddC nil41).toArray 39)
    rw [hsz] at HM
    have PA := Lib.hid (SA.out.put (.int .i64 m) (.string (bs s)) (.slice a xs.length cap)).drew
    have PB := Lib.hid ((S1.out.put (.int .i64 m) (.string (bs s)) (.slice a xs.length cap)).alloc (.cells (ddC nil41).toArray 39)).drew
    have hn : Hid (∀ x ∈ nil41, x.2.2.length ≤ 100) := Lib.hid fun x hx => by rw [List.eq_of_mem_replicate hx]; decide
    have way : Hid (DdsWay (some ⟨wo.heap.size, 0, none⟩) nil41 41) := Lib.hid ⟨by decide, by decide, ⟨_, rfl⟩⟩
    have KA := Lib.hid (HN.out.kept (put3_past _ w.heap.size (.int .i64 m) (.string (bs s)) (.slice a xs.length cap)) (by simp; omega))
    have LA := Lib.hid (hA.out.past (put3_past _ w.heap.size (.int .i64 m) (.string (bs s)) (.slice a xs.length cap)) (by omega))
    have LB := Lib.hid ((ho4.out.past (put3_past _ w.heap.size (.int .i64 m) (.string (bs s)) (.slice a xs.length cap)) (by omega)).kept (World.grownBy_alloc _ (.cells (ddC nil41).toArray 39) none))
    generalize ddC nil41 = X at *
    obtain ⟨⟨⟨a0, a1, a2⟩, g0, g1, g2⟩, ⟨⟨b0, b1, b2⟩, i0, i1, i2⟩⟩ := SA.out.facts
    go_wp2_with fail
    go_region_with fail
    all_goals go_wp2_with fail
    all_goals first
      | exact bodyPost_ret (v := .tuple #[.agg #[.int .i64 m, .string (bs s), .slice a xs.length cap], .slice (some ⟨wo.heap.size, 0, none⟩) 41 41]) (resDkB (b := .slice (some ⟨wo.heap.size, 0, none⟩) 41 41) rfl _ rfl rfl PA.out.1) rfl ⟨((m, s), xs), a, cap, nil41, some ⟨wo.heap.size, 0, none⟩, 41, rfl, LA.out.at, LA.out.bare, HAT.out _ _ KA.out, way.out, hn.out, PA.out.2.2.1⟩
      | exact bodyPost_ret (v := .tuple #[.agg #[.int .i64 m, .string (bs s), .slice a xs.length cap], .slice (some ⟨wo.heap.size, 0, none⟩) 41 41]) (resDkB (b := .slice (some ⟨wo.heap.size, 0, none⟩) 41 41) rfl _ rfl rfl PB.out.1) rfl ⟨((m, s), xs), a, cap, nil41, some ⟨wo.heap.size, 0, none⟩, 41, rfl, LB.out.at, LB.out.bare, HAT.out _ _ HM.out, way.out, hn.out, PB.out.2.2.1⟩

end Go.Proofs.Ytnkebgkocpeonaa

/-
  What a deed makes of a desk: impl's DeskDo.
-/
namespace Go.Proofs.Ytnkebgkocpeonaa
open Go.RowKit

theorem do_post' {w w' : World} {base : Nat} {a : Option Addr} {r : Dk × Bool} {cap : Nat} {u v s : Value} {b : Bool} (hg : w.grownBy w' none) (ho : OwnL w' base a r.1.2) (hb : w.heap.size + 3 ≤ base) (h0 : a = none → cap = 0) (hu : u = .int .i64 r.1.1.1) (hv : v = .string (bs r.1.1.2)) (hs : s = .slice a r.1.2.length cap) (hr : b = r.2) :
    DoPost r w (.returned (.tuple #[.agg #[u, v, s], .bool b])) (((w'.setCell ⟨w.heap.size + 1 + 1, 0, none⟩ u).setCell ⟨w.heap.size + 1 + 1, 1, none⟩ v).setCell ⟨w.heap.size + 1 + 1, 2, none⟩ s) := by
  obtain ⟨⟨x, xs⟩, b'⟩ := r
  change b = b' at hr
  subst hr
  exact do_post hg (ho.mono hb) h0 hu hv hs

set_option maxRecDepth 8000 in
set_option maxHeartbeats 1000000 in
theorem ido_bad (x : Ld) (xs : List Ld) (dk dn : Int) (dt : List UInt8) (a : Option Addr) (cap : Nat) (w : World) (h : LdsAt w a xs) (hd : dkB (x, xs) = false) :
    Calls Try.prog 26 #[dkV (x, xs) a cap, ddV (dk, dn, dt)] w (DoPost (nilDk, false) w) := by
  have hb := box3_new w (x, xs) a cap dk dn (bs dt)
  have g3 := made3 w (.cells #[.int .i64 x.1, .string (bs x.2), .slice a xs.length cap] 31) (.cells #[.int .i64 dk, .int .i64 dn, .string (bs dt)] 39) (.cells zeroDk 31)
  have hz := size3 w (.cells #[.int .i64 x.1, .string (bs x.2), .slice a xs.length cap] 31) (.cells #[.int .i64 dk, .int .i64 dn, .string (bs dt)] 39) (.cells zeroDk 31)
  have ck := idesk_any (x, xs) a cap _ (h.grown g3)
  rw [hd] at ck
  have HB := Lib.hid hb
  have G3 := Lib.hid g3
  have HZ := Lib.hid hz
  clear h hb g3 hz
  unfold dkV at *
  unfold ddV
  go_enter Try.func26, Try.ntmps26
  go_wp2_with (first | (go_at_call 18; refine ck.mono ?_; rintro e w1 ⟨rfl, hg⟩; obtain ⟨⟨d0, d1, d2⟩, ⟨e0, e1, e2⟩, ⟨r0, r1, r2⟩, f0, f1, f2⟩ := (HB.out.grown hg).facts))
  have F := (HB.out.grown hg).2.2.put3 (.int .i64 0) (.string ⟨#[]⟩) (.slice none 0 0)
  have P := do_post (x := nilLd) (b := false) (u := .int .i64 0) (v := .string ⟨#[]⟩) (s := .slice none 0 0) (cap := 0) (xs := []) (grownBy_trans G3.out hg) (OwnL.nil _ _ none) (fun _ => rfl) rfl rfl rfl
  exact bodyPost_ret (v := .tuple #[.agg #[.int .i64 0, .string ⟨#[]⟩, .slice none 0 0], .bool false]) (resDkB (b := .bool false) rfl _ rfl rfl F) rfl P

set_option maxRecDepth 8000 in
set_option maxHeartbeats 1000000 in
theorem ido_names (x : Ld) (xs : List Ld) (dk dn : Int) (dt : List UInt8) (a : Option Addr) (cap : Nat) (w : World) (h : LdsAt w a xs) (h0 : a = none → cap = 0) (hd : dkB (x, xs) = true) (hn : namesB (dk, dn, dt) = false) :
    Calls Try.prog 26 #[dkV (x, xs) a cap, ddV (dk, dn, dt)] w (DoPost ((x, xs), false) w) := by
  have hl := (dkB_of hd).2.2
  change xs.length ≤ 8 at hl
  have hb := box3_new w (x, xs) a cap dk dn (bs dt)
  have g3 := made3 w (.cells #[.int .i64 x.1, .string (bs x.2), .slice a xs.length cap] 31) (.cells #[.int .i64 dk, .int .i64 dn, .string (bs dt)] 39) (.cells zeroDk 31)
  have hz := size3 w (.cells #[.int .i64 x.1, .string (bs x.2), .slice a xs.length cap] 31) (.cells #[.int .i64 dk, .int .i64 dn, .string (bs dt)] 39) (.cells zeroDk 31)
  have ck := idesk_any (x, xs) a cap _ (h.grown g3)
  rw [hd] at ck
  have HB := Lib.hid hb
  have G3 := Lib.hid g3
  have HZ := Lib.hid hz
  have cn := names_any (dk, dn, dt)
  rw [hn] at cn
  have cc := fun w1 (hg : World.grownBy _ w1 none) => copied_any (x, xs) a cap w1 ((h.grown g3).grown hg) h0 (by show xs.length ≤ 9; omega)
  clear h hb g3 hz h0 hd hn
  unfold dkV at *
  unfold ddV at *
  go_enter Try.func26, Try.ntmps26
  go_wp2_with (first | (go_at_call 18; refine ck.mono ?_; rintro e w1 ⟨rfl, hg⟩; obtain ⟨⟨d0, d1, d2⟩, ⟨e0, e1, e2⟩, ⟨r0, r1, r2⟩, f0, f1, f2⟩ := (HB.out.grown hg).facts) | (go_at_call 58; refine (cn _).mono ?_; rintro e w2 ⟨rfl, hg2⟩; obtain ⟨⟨d0, d1, d2⟩, ⟨e0, e1, e2⟩, ⟨r0, r1, r2⟩, f0, f1, f2⟩ := ((HB.out.grown hg).grown hg2).facts) | (go_at_call 59; refine (cc _ (grownBy_trans hg hg2)).mono ?_; rintro e w3 ⟨a', cap', rfl, ho, hg3⟩; obtain ⟨⟨d0, d1, d2⟩, ⟨e0, e1, e2⟩, ⟨r0, r1, r2⟩, f0, f1, f2⟩ := (((HB.out.grown hg).grown hg2).grown hg3).facts))
  have F := (((HB.out.grown hg).grown hg2).grown hg3).2.2.put3 (.int .i64 x.1) (.string (bs x.2)) (.slice a' xs.length cap')
  have P := do_post (x := x) (xs := xs) (b := false) (grownBy_trans (grownBy_trans (grownBy_trans G3.out hg) hg2) hg3) (ho.l.mono (by have := hg.size; have := hg2.size; have := HZ.out; omega)) ho.bare rfl rfl rfl
  exact bodyPost_ret (v := .tuple #[.agg #[.int .i64 x.1, .string (bs x.2), .slice a' xs.length cap'], .bool false]) (resDkB (b := .bool false) rfl _ rfl rfl F) rfl P

set_option maxRecDepth 8000 in
set_option maxHeartbeats 1000000 in
theorem ido_back (x : Ld) (xs : List Ld) (dk dn : Int) (dt : List UInt8) (a : Option Addr) (cap : Nat) (w : World) (h : LdsAt w a xs) (r : Dk × Bool) (hk : dk = 6) (hd : dkB (x, xs) = true) (hn : namesB (dk, dn, dt) = true)
    (cb : ∀ w1, LdsAt w1 a xs → Calls Try.prog 60 #[.agg #[.int .i64 x.1, .string (bs x.2), .slice a xs.length cap]] w1 (DoPost r w1)) :
    Calls Try.prog 26 #[dkV (x, xs) a cap, ddV (dk, dn, dt)] w (DoPost r w) := by
  have hb := box3_new w (x, xs) a cap dk dn (bs dt)
  have g3 := made3 w (.cells #[.int .i64 x.1, .string (bs x.2), .slice a xs.length cap] 31) (.cells #[.int .i64 dk, .int .i64 dn, .string (bs dt)] 39) (.cells zeroDk 31)
  have hz := size3 w (.cells #[.int .i64 x.1, .string (bs x.2), .slice a xs.length cap] 31) (.cells #[.int .i64 dk, .int .i64 dn, .string (bs dt)] 39) (.cells zeroDk 31)
  have ck := idesk_any (x, xs) a cap _ (h.grown g3)
  rw [hd] at ck
  have HB := Lib.hid hb
  have G3 := Lib.hid g3
  have HZ := Lib.hid hz
  have cn := names_any (dk, dn, dt)
  rw [hn] at cn
  have cc := fun w1 (hg : World.grownBy _ w1 none) => cb w1 ((h.grown g3).grown hg)
  clear h hb g3 hz hd hn cb
  subst hk
  unfold dkV at *
  unfold ddV at *
  obtain ⟨⟨⟨rm, rs⟩, rl⟩, rb⟩ := r
  unfold DoPost dkV at cc
  go_enter Try.func26, Try.ntmps26
  go_wp2_with (first | (go_at_call 18; refine ck.mono ?_; rintro e w1 ⟨rfl, hg⟩; obtain ⟨⟨d0, d1, d2⟩, ⟨e0, e1, e2⟩, ⟨r0, r1, r2⟩, f0, f1, f2⟩ := (HB.out.grown hg).facts) | (go_at_call 58; refine (cn _).mono ?_; rintro e w2 ⟨rfl, hg2⟩; obtain ⟨⟨d0, d1, d2⟩, ⟨e0, e1, e2⟩, ⟨r0, r1, r2⟩, f0, f1, f2⟩ := ((HB.out.grown hg).grown hg2).facts) | (go_at_call 60; refine (cc _ (grownBy_trans hg hg2)).mono ?_; rintro e w3 ⟨a', cap', rfl, ho, h0', hg3⟩; obtain ⟨⟨d0, d1, d2⟩, ⟨e0, e1, e2⟩, ⟨r0, r1, r2⟩, f0, f1, f2⟩ := (((HB.out.grown hg).grown hg2).grown hg3).facts))
  have F := (((HB.out.grown hg).grown hg2).grown hg3).2.2.put3 (.int .i64 rm) (.string (bs rs)) (.slice a' rl.length cap')
  have P := do_post (x := (rm, rs)) (xs := rl) (b := rb) (grownBy_trans (grownBy_trans (grownBy_trans G3.out hg) hg2) hg3) (ho.mono (by have := hg.size; have := hg2.size; have := HZ.out; omega)) h0' rfl rfl rfl
  exact bodyPost_ret (v := .tuple #[.agg #[.int .i64 rm, .string (bs rs), .slice a' rl.length cap'], .bool rb]) (resDkB (b := .bool rb) rfl _ rfl rfl F) rfl P

set_option maxRecDepth 8000 in
set_option maxHeartbeats 1000000 in
theorem ido_lay (x : Ld) (xs : List Ld) (dk dn : Int) (dt : List UInt8) (a : Option Addr) (cap : Nat) (w : World) (h : LdsAt w a xs) (h0 : a = none → cap = 0) (hk : dk ≠ 6) (hd : dkB (x, xs) = true) (hn : namesB (dk, dn, dt) = true) (ht : dt.length ≤ 4000000) (y : Ld) (hy : y = aft x (dk, dn, dt)) (r : Dk × Bool) (hr : r = if ldB y = true ∧ y ≠ x then ((y, capP (xs ++ [x])), true) else ((x, xs), false)) :
    Calls Try.prog 26 #[dkV (x, xs) a cap, ddV (dk, dn, dt)] w (DoPost r w) := by
  have hl := (dkB_of hd).2.2
  have hx : x.2.length ≤ 60 := isF_len (ldB_of (dkB_of hd).2.1).2
  change xs.length ≤ 8 at hl
  have hb := box3_new w (x, xs) a cap dk dn (bs dt)
  have g3 := made3 w (.cells #[.int .i64 x.1, .string (bs x.2), .slice a xs.length cap] 31) (.cells #[.int .i64 dk, .int .i64 dn, .string (bs dt)] 39) (.cells zeroDk 31)
  have hz := size3 w (.cells #[.int .i64 x.1, .string (bs x.2), .slice a xs.length cap] 31) (.cells #[.int .i64 dk, .int .i64 dn, .string (bs dt)] 39) (.cells zeroDk 31)
  have ck := idesk_any (x, xs) a cap _ (h.grown g3)
  rw [hd] at ck
  have HB := Lib.hid hb
  have G3 := Lib.hid g3
  have HZ := Lib.hid hz
  have cn := names_any (dk, dn, dt)
  rw [hn] at cn
  have ca := aft_any x (dk, dn, dt) hx ht
  unfold AftPost at ca
  rw [← hy] at ca
  have cc := fun w1 (hg : World.grownBy _ w1 none) => lay_any x y xs a cap w1 ((h.grown g3).grown hg) h0 hl
  rw [← hr] at cc
  have hk6 : (dk == 6) = false := beq_false_of_ne hk
  clear h hb g3 hz hd hn hk hx ht hy hr h0
  unfold dkV at *
  unfold ddV at *
  unfold ldV at *
  obtain ⟨m, s⟩ := x
  obtain ⟨k, u⟩ := y
  obtain ⟨⟨⟨rm, rs⟩, rl⟩, rb⟩ := r
  unfold DoPost dkV at cc
  go_enter Try.func26, Try.ntmps26
  go_wp2_with (first | (go_at_call 18; refine ck.mono ?_; rintro e w1 ⟨rfl, hg⟩; obtain ⟨⟨d0, d1, d2⟩, ⟨e0, e1, e2⟩, ⟨r0, r1, r2⟩, f0, f1, f2⟩ := (HB.out.grown hg).facts) | (go_at_call 58; refine (cn _).mono ?_; rintro e w2 ⟨rfl, hg2⟩; obtain ⟨⟨d0, d1, d2⟩, ⟨e0, e1, e2⟩, ⟨r0, r1, r2⟩, f0, f1, f2⟩ := ((HB.out.grown hg).grown hg2).facts))
  have W2 := Lib.hid ((HB.out.grown hg).grown hg2)
  have CC : ∀ w3, w2.grownBy w3 none → _ := fun w3 hg3 => cc w3 (grownBy_trans (grownBy_trans hg hg2) hg3)
  have g02 := Lib.hid (grownBy_trans (grownBy_trans G3.out hg) hg2)
  have hs2 := Lib.hid (show w.heap.size + 3 ≤ w2.heap.size by have := hg.size; have := hg2.size; have := HZ.out; omega)
  clear cc hg hg2
  go_region_with (first | (go_at_call 62; refine (ca _).mono ?_; rintro e w3 ⟨rfl, hg3⟩; obtain ⟨⟨d0, d1, d2⟩, ⟨e0, e1, e2⟩, ⟨r0, r1, r2⟩, f0, f1, f2⟩ := (W2.out.grown (drew_grown hg3)).facts) | (go_at_call 61; refine (CC _ (drew_grown hg3)).mono ?_; rintro e w4 ⟨a', cap', rfl, ho, h0', hg4⟩; obtain ⟨⟨d0, d1, d2⟩, ⟨e0, e1, e2⟩, ⟨r0, r1, r2⟩, f0, f1, f2⟩ := ((W2.out.grown (drew_grown hg3)).grown hg4).facts))
  all_goals go_wp2
  all_goals
    have F := ((W2.out.grown (drew_grown hg3)).grown hg4).2.2.put3 (.int .i64 rm) (.string (bs rs)) (.slice a' rl.length cap')
    have P := do_post (x := (rm, rs)) (xs := rl) (b := rb) (grownBy_trans (grownBy_trans g02.out (drew_grown hg3)) hg4) (ho.mono (by have := hs2.out; have := (drew_grown hg3).size; omega)) h0' rfl rfl rfl
    exact bodyPost_ret (v := .tuple #[.agg #[.int .i64 rm, .string (bs rs), .slice a' rl.length cap'], .bool rb]) (resDkB (b := .bool rb) rfl _ rfl rfl F) rfl P

/-- What a deed makes of any desk. -/
theorem ido_any (d : Dk) (D : Dd) (a : Option Addr) (cap : Nat) (w : World) (h : LdsAt w a d.2) (h0 : a = none → cap = 0) (ht : D.2.2.length ≤ 4000000) :
    Calls Try.prog 26 #[dkV d a cap, ddV D] w (DoPost (doR d D) w) := by
  obtain ⟨x, xs⟩ := d
  obtain ⟨k, n, t⟩ := D
  cases hd : dkB (x, xs)
  · rw [doR_no hd]; exact ido_bad x xs k n t a cap w h hd
  have hl := (dkB_of hd).2.2
  change xs.length ≤ 8 at hl
  cases hn : namesB (k, n, t)
  · obtain ⟨h6, hw⟩ := names_no (x := x) hn
    rw [doR_none hd (doD_none (d := (x, xs)) h6 hw)]
    exact ido_names x xs k n t a cap w h h0 hd hn
  by_cases h6 : k = 6
  · have hD : ((k, n, t) : Dd) = (6, 0, []) := by
      subst h6
      unfold namesB at hn
      simp at hn
      rw [hn.1, hn.2]
    have hr : doR (x, xs) (k, n, t) = doR (x, xs) (6, 0, []) := by rw [hD]
    rw [hr]
    refine ido_back x xs k n t a cap w h _ h6 hd hn fun w1 hw1 => ?_
    obtain ⟨m, s⟩ := x
    cases hp : xs.getLast? with
    | some p =>
      rw [doR_some hd (doD_back (d := ((m, s), xs)) hp)]
      obtain ⟨ys, rfl⟩ : ∃ ys, xs = ys ++ [p] := List.getLast?_eq_some_iff.1 hp
      have hL : (ys ++ [p]).length = ys.length + 1 := by simp
      show Calls _ _ _ _ (DoPost ((p, (ys ++ [p]).dropLast), true) w1)
      rw [List.dropLast_concat, hL]
      exact back_some m s p ys a cap w1 hw1 h0 (by omega)
    | none =>
      have hx0 : xs = [] := List.getLast?_eq_none_iff.1 hp
      rw [doR_none hd (doD_back0 (d := ((m, s), xs)) hx0)]
      subst hx0
      exact back_none m s a cap w1 h0
  · refine ido_lay x xs k n t a cap w h h0 h6 hd hn ht _ rfl _ ?_
    have e := aft_new (x := x) (a := (k, n, t)) (dkB_of hd).2.1 hn h6
    have hne : ((k, n, t) : Dd) ≠ (6, 0, []) := fun q => h6 (congrArg Prod.fst q)
    by_cases hc : ldB (aft x (k, n, t)) = true ∧ aft x (k, n, t) ≠ x
    · rw [if_pos hc] at e
      rw [if_pos hc, doR_some hd (doD_new (d := (x, xs)) hne e)]
    · rw [if_neg hc] at e
      rw [if_neg hc, doR_none hd (doD_none (d := (x, xs)) hne e)]

end Go.Proofs.Ytnkebgkocpeonaa

/-
  Deeds one after the other: DeskRun, the program's and the model's.
-/
namespace Go.Proofs.Ytnkebgkocpeonaa
open Go.RowKit

def runR (d : Dk) (l : List Dd) : Dk × Nat := if dkB d = true ∧ l.length ≤ 40 then runD d l else (nilDk, 0)
def RunPost (r : Dk × Nat) (w : World) (e : Ending) (w' : World) : Prop := ∃ a cap, e = .returned (.tuple #[dkV r.1 a cap, .int .i64 (r.2 : Int)]) ∧ OwnL w' w.heap.size a r.1.2 ∧ (a = none → cap = 0) ∧ w.grownBy w' none

theorem dds_next {l : List Dd} {i : Nat} (hi : i < l.length) : l.take (i + 1) = l.take i ++ [l.getD i nilDd] := by
  rw [List.take_succ_eq_append_getElem hi, List.getD_eq_getElem?_getD, List.getElem?_eq_getElem hi]; rfl
theorem run_step {d e : Dk} {l : List Dd} {i n : Nat} (hi : i < l.length) (h : runD d (l.take i) = (e, n)) (he : dkB e = true) {f : Dk} {ok : Bool} (hr : doR e (l.getD i nilDd) = (f, ok)) : runD d (l.take (i + 1)) = (f, cond ok (n + 1) n) ∧ dkB f = true ∧ (ok = false → f = e) := by
  rw [dds_next hi]
  cases hq : doD e (l.getD i nilDd) with
  | none =>
    rw [doR_none he hq] at hr
    cases hr
    refine ⟨?_, he, fun _ => rfl⟩
    rw [run_snoc_no (by rw [h]; exact hq), h]; rfl
  | some g =>
    rw [doR_some he hq] at hr
    cases hr
    refine ⟨?_, do_ok he hq, fun h => by cases h⟩
    rw [run_snoc_yes (by rw [h]; exact hq), h]; rfl

theorem OwnL.put3 {W : World} {base b : Nat} {a : Option Addr} {xs : List Ld} (o : OwnL W base a xs) (hB : DkB W b) (p q t : Value) : OwnL (((W.setCell ⟨b, 0, none⟩ p).setCell ⟨b, 1, none⟩ q).setCell ⟨b, 2, none⟩ t) base a xs := o.beside hB (put3_past W b p q t)
theorem dk_facts {W : World} {b : Nat} {u v x : Value} (h : CellsAt W b #[u, v, x] 31) : (W.cell? ⟨b, 0, none⟩ = some u ∧ W.cell? ⟨b, 1, none⟩ = some v ∧ W.cell? ⟨b, 2, none⟩ = some x) ∧ W.frozen? ⟨b, 0, none⟩ = false ∧ W.frozen? ⟨b, 1, none⟩ = false ∧ W.frozen? ⟨b, 2, none⟩ = false := ⟨h.three, h.frozen 0, h.frozen 1, h.frozen 2⟩

theorem zero_1 {W W' : World} (hg : (W.alloc (.cells #[.int .i64 0, .string ⟨#[]⟩, .slice none 0 0] 31)).grownBy W' none) : CellsAt W' W.heap.size #[.int .i64 0, .string ⟨#[]⟩, .slice none 0 0] 31 := (CellsAt.new W _ _).grown hg
theorem lastS7 {a b c d e f g : Prop} (h : a ∧ b ∧ c ∧ d ∧ e ∧ f ∧ g) : g := h.2.2.2.2.2.2
theorem sizeS7 {a b c d e f : Prop} {W W' : World} {row : Option Nat} (h : a ∧ b ∧ c ∧ d ∧ e ∧ f ∧ W.grownBy W' row) : W.heap.size ≤ W'.heap.size := h.2.2.2.2.2.2.size
/-- A variable with the desk that was answered. -/
def GotZ (W : World) (m : Int) (s : List UInt8) (xs : List Ld) (ok : Bool) (p v : Value) (wc : World) : Prop :=
  ∃ (b : Nat) (a : Option Addr) (cap : Nat), p = .pointer (some ⟨b, 0, none⟩) ∧ v = .bool ok ∧ W.heap.size ≤ b ∧ CellsAt wc b #[.int .i64 m, .string (bs s), .slice a xs.length cap] 31 ∧ OwnL wc W.heap.size a xs ∧ (a = none → cap = 0) ∧ W.grownBy wc none
theorem gotZ_new {W wc : World} {m : Int} {s : List UInt8} {xs : List Ld} {ok : Bool} {a : Option Addr} {cap base : Nat} (ho : OwnL wc base a xs) (hz : a = none → cap = 0) (hb : W.heap.size ≤ base) (hg : W.grownBy wc none) :
    GotZ W m s xs ok (.pointer (some ⟨wc.heap.size, 0, none⟩)) (.bool ok) (wc.alloc (.cells #[.int .i64 m, .string (bs s), .slice a xs.length cap] 31)) :=
  ⟨_, a, cap, rfl, rfl, hg.size, CellsAt.new wc _ _, (ho.kept (World.grownBy_alloc _ _ none)).mono hb, hz, grownBy_trans hg (World.grownBy_alloc _ _ none)⟩
theorem gotZ_old {W wc : World} {m : Int} {s : List UInt8} {xs : List Ld} {ok : Bool} {a : Option Addr} {cap base b : Nat} {x y z : Value} (ho : OwnL wc base a xs) (hz : a = none → cap = 0) (hb : W.heap.size ≤ base) (hg : W.grownBy wc none) (hB : CellsAt wc b #[x, y, z] 31) (hw : W.heap.size ≤ b) :
    GotZ W m s xs ok (.pointer (some ⟨b, 0, none⟩)) (.bool ok) (((wc.setCell ⟨b, 0, none⟩ (.int .i64 m)).setCell ⟨b, 1, none⟩ (.string (bs s))).setCell ⟨b, 2, none⟩ (.slice a xs.length cap)) :=
  ⟨b, a, cap, rfl, rfl, hw, hB.put3 _ _ _, (ho.beside ⟨_, hB⟩ (put3_past wc b _ _ _)).mono hb, hz, put3_grown b hg hw _ _ _⟩

/-- The desk between the deeds. -/
def RunI (w0 : World) (b : Nat) (d : Dk) (l : List Dd) (iv nv : Value) (wr : World) : Prop :=
  ∃ (i n : Nat) (e : Dk) (a : Option Addr) (cap : Nat), i ≤ l.length ∧ iv = .int .i64 i ∧ nv = .int .i64 n ∧ n ≤ i ∧ runD d (l.take i) = (e, n) ∧ dkB e = true ∧ CellsAt wr b #[.int .i64 e.1.1, .string (bs e.1.2), .slice a e.2.length cap] 31 ∧ OwnL wr w0.heap.size a e.2 ∧ (a = none → cap = 0) ∧ CellsAt wr (w0.heap.size + 1) #[.int .i64 0, .string ⟨#[]⟩, .slice none 0 0] 31 ∧ w0.grownBy wr none ∧ w0.heap.size + 1 < b
theorem run_post0 {w w' : World} (hg : w.grownBy w' none) : RunPost (nilDk, 0) w (.returned (.tuple #[.agg #[.int .i64 0, .string ⟨#[]⟩, .slice none 0 0], .int .i64 0])) (((w'.setCell ⟨w.heap.size + 1, 0, none⟩ (.int .i64 0)).setCell ⟨w.heap.size + 1, 1, none⟩ (.string ⟨#[]⟩)).setCell ⟨w.heap.size + 1, 2, none⟩ (.slice none 0 0)) :=
  ⟨none, 0, rfl, OwnL.nil _ _ _, fun _ => rfl, put3_grown _ hg (by omega) _ _ _⟩

set_option maxRecDepth 8000 in
set_option maxHeartbeats 2000000 in
theorem irun_bad (m : Int) (s : List UInt8) (xs : List Ld) (l : List Dd) (a b : Option Addr) (cap capb : Nat) (w : World) (h : LdsAt w a xs) (hd : dkB ((m, s), xs) = false ∨ (dkB ((m, s), xs) = true ∧ 40 < l.length)) :
    Calls Try.prog 30 #[.agg #[.int .i64 m, .string (bs s), .slice a xs.length cap], .slice b l.length capb] w (RunPost (nilDk, 0) w) := by
  have g2 : w.grownBy ((w.alloc (.cells #[.int .i64 m, .string (bs s), .slice a xs.length cap] 31)).alloc (.cells #[.int .i64 0, .string ⟨#[]⟩, .slice none 0 0] 31)) none := grownBy_trans (World.grownBy_alloc w _ none) (World.grownBy_alloc _ _ none)
  have hZ := Lib.hid (CellsAt.second w (.cells #[.int .i64 m, .string (bs s), .slice a xs.length cap] 31) #[.int .i64 0, .string ⟨#[]⟩, .slice none 0 0] 31)
  have ck := idesk_any ((m, s), xs) a cap _ (h.grown g2)
  have G2 := Lib.hid g2
  clear h g2
  unfold dkV at ck
  rcases hd with hd | ⟨hd, hl⟩
  · rw [hd] at ck
    go_enter Try.func30, Try.ntmps30
    go_wp2_with (first | (go_at_call 18; refine ck.mono ?_; rintro e w1 ⟨rfl, hg⟩; obtain ⟨⟨z0, z1, z2⟩, f0, f1, f2⟩ := dk_facts (hZ.out.grown hg)))
    exact bodyPost_ret (v := .tuple #[.agg #[.int .i64 0, .string ⟨#[]⟩, .slice none 0 0], .int .i64 0]) (resDkB (b := .int .i64 0) rfl _ rfl rfl ((hZ.out.grown hg).put3 _ _ _)) rfl (run_post0 (grownBy_trans G2.out hg))
  · rw [hd] at ck
    have hll : (40 : Int) < (l.length : Int) := by omega
    go_enter Try.func30, Try.ntmps30
    go_wp2_with (first | (go_at_call 18; refine ck.mono ?_; rintro e w1 ⟨rfl, hg⟩; obtain ⟨⟨z0, z1, z2⟩, f0, f1, f2⟩ := dk_facts (hZ.out.grown hg)))
    exact bodyPost_ret (v := .tuple #[.agg #[.int .i64 0, .string ⟨#[]⟩, .slice none 0 0], .int .i64 0]) (resDkB (b := .int .i64 0) rfl _ rfl rfl ((hZ.out.grown hg).put3 _ _ _)) rfl (run_post0 (grownBy_trans G2.out hg))

set_option maxRecDepth 8000 in
set_option maxHeartbeats 2000000 in
theorem srun_bad (m : Int) (s : List UInt8) (xs : List Ld) (l : List Dd) (a b : Option Addr) (cap capb : Nat) (w : World) (h : LdsAt w a xs) (hd : dkB ((m, s), xs) = false ∨ (dkB ((m, s), xs) = true ∧ 40 < l.length)) :
    Calls Try.prog 31 #[.agg #[.int .i64 m, .string (bs s), .slice a xs.length cap], .slice b l.length capb] w (RunPost (nilDk, 0) w) := by
  have g2 : w.grownBy ((w.alloc (.cells #[.int .i64 m, .string (bs s), .slice a xs.length cap] 31)).alloc (.cells #[.int .i64 0, .string ⟨#[]⟩, .slice none 0 0] 31)) none := grownBy_trans (World.grownBy_alloc w _ none) (World.grownBy_alloc _ _ none)
  have hZ := Lib.hid (CellsAt.second w (.cells #[.int .i64 m, .string (bs s), .slice a xs.length cap] 31) #[.int .i64 0, .string ⟨#[]⟩, .slice none 0 0] 31)
  have ck := sdesk_is ((m, s), xs) a cap _ (h.grown g2)
  have G2 := Lib.hid g2
  clear h g2
  unfold dkV at ck
  rcases hd with hd | ⟨hd, hl⟩
  · rw [hd] at ck
    go_enter Try.func31, Try.ntmps31
    go_wp2_with (first | (go_at_call 19; refine ck.mono ?_; rintro e w1 ⟨rfl, hg⟩; obtain ⟨⟨z0, z1, z2⟩, f0, f1, f2⟩ := dk_facts (hZ.out.grown hg)))
    exact bodyPost_ret (v := .tuple #[.agg #[.int .i64 0, .string ⟨#[]⟩, .slice none 0 0], .int .i64 0]) (resDkB (b := .int .i64 0) rfl _ rfl rfl ((hZ.out.grown hg).put3 _ _ _)) rfl (run_post0 (grownBy_trans G2.out hg))
  · rw [hd] at ck
    have hll : (40 : Int) < (l.length : Int) := by omega
    go_enter Try.func31, Try.ntmps31
    go_wp2_with (first | (go_at_call 19; refine ck.mono ?_; rintro e w1 ⟨rfl, hg⟩; obtain ⟨⟨z0, z1, z2⟩, f0, f1, f2⟩ := dk_facts (hZ.out.grown hg)))
    exact bodyPost_ret (v := .tuple #[.agg #[.int .i64 0, .string ⟨#[]⟩, .slice none 0 0], .int .i64 0]) (resDkB (b := .int .i64 0) rfl _ rfl rfl ((hZ.out.grown hg).put3 _ _ _)) rfl (run_post0 (grownBy_trans G2.out hg))

set_option maxRecDepth 8000 in
set_option maxHeartbeats 8000000 in
theorem irun_ok (m : Int) (s : List UInt8) (xs : List Ld) (l : List Dd) (a b : Option Addr) (cap capb : Nat) (w : World) (h : LdsAt w a xs) (h0 : a = none → cap = 0) (hl : DdsAt w b l) (ht : ∀ x ∈ l, x.2.2.length ≤ 4000000) (hd : dkB ((m, s), xs) = true) (hn : l.length ≤ 40) :
    Calls Try.prog 30 #[.agg #[.int .i64 m, .string (bs s), .slice a xs.length cap], .slice b l.length capb] w (RunPost (runD ((m, s), xs) l) w) := by
  have g2 : w.grownBy ((w.alloc (.cells #[.int .i64 m, .string (bs s), .slice a xs.length cap] 31)).alloc (.cells #[.int .i64 0, .string ⟨#[]⟩, .slice none 0 0] 31)) none := grownBy_trans (World.grownBy_alloc w _ none) (World.grownBy_alloc _ _ none)
  have hZ := Lib.hid (CellsAt.second w (.cells #[.int .i64 m, .string (bs s), .slice a xs.length cap] 31) #[.int .i64 0, .string ⟨#[]⟩, .slice none 0 0] 31)
  have hD := Lib.hid (CellsAt.first w (.cells #[.int .i64 0, .string ⟨#[]⟩, .slice none 0 0] 31) #[.int .i64 m, .string (bs s), .slice a xs.length cap] 31)
  have ck := idesk_any ((m, s), xs) a cap _ (h.grown g2)
  rw [hd] at ck
  unfold dkV at ck
  have hx8 : xs.length ≤ 9 := by have := (dkB_of hd).2.2; change xs.length ≤ 8 at this; omega
  have cc : ∀ W, LdsAt W a xs → Calls Try.prog 59 #[.agg #[.int .i64 m, .string (bs s), .slice a xs.length cap]] W fun e w' => ∃ a' cap', e = .returned (.agg #[.int .i64 m, .string (bs s), .slice a' xs.length cap']) ∧ Own2 w' W.heap.size a' cap' xs ∧ W.grownBy w' none := fun W hW => copied_any ((m, s), xs) a cap W hW h0 hx8
  have HX := Lib.hid (h.grown g2)
  have HL := Lib.hid hl
  have HT := Lib.hid ht
  have HD := Lib.hid hd
  have G2 := Lib.hid g2
  have hll : ¬ ((40 : Int) < (l.length : Int)) := by omega
  clear h g2 hl ht hd h0
  go_enter Try.func30, Try.ntmps30
  go_wp2_with fail
  generalize (w.alloc (.cells #[.int .i64 m, .string (bs s), .slice a xs.length cap] 31)).alloc (.cells #[.int .i64 0, .string ⟨#[]⟩, .slice none 0 0] 31) = W at *
  refine ck.mono ?_
  rintro e w1 ⟨rfl, hg1⟩
  obtain ⟨d0, d1, d2⟩ := (hD.out.grown hg1).three
  clear ck
  go_wp2_with fail
  refine (cc _ (HX.out.grown hg1)).mono ?_
  rintro e w2 ⟨a2, c2, rfl, ho, hg2⟩
  have g02 := grownBy_trans G2.out (grownBy_trans hg1 hg2)
  have hA := CellsAt.new w2 #[.int .i64 m, .string (bs s), .slice a2 xs.length c2] 31
  have gA := World.grownBy_alloc w2 (.cells #[.int .i64 m, .string (bs s), .slice a2 xs.length c2] 31) none
  have s1 : w.heap.size ≤ w1.heap.size := (grownBy_trans G2.out hg1).size
  have hZ2 := (hZ.out.grown (grownBy_trans hg1 hg2)).grown gA
  have hlt := (hZ.out.grown (grownBy_trans hg1 hg2)).lt
  have hInit : Hid (RunI w w2.heap.size ((m, s), xs) l (.int .i64 ((0 : Nat) : Int)) (.int .i64 ((0 : Nat) : Int)) (w2.alloc (.cells #[.int .i64 m, .string (bs s), .slice a2 xs.length c2] 31))) := ⟨0, 0, ((m, s), xs), a2, c2, by omega, rfl, rfl, by omega, by rw [List.take_zero]; rfl, HD.out, hA, (ho.kept gA).l.mono s1, (ho.kept gA).bare, hZ2, grownBy_trans g02 gA, hlt⟩
  clear ho hg1 hg2 g02 gA s1 hZ2 hA cc d0 d1 d2
  go_wp2_with fail
  generalize w2.alloc (.cells #[.int .i64 m, .string (bs s), .slice a2 xs.length c2] 31) = W2 at *
  generalize w2.heap.size = bA at *
  go_loopw [25, 7] (fun iv nv wr => RunI w bA ((m, s), xs) l iv nv wr) (fun iv _ _ => l.length - (intOf iv).toNat)
  case atStart => exact hInit.out
  case round =>
    obtain ⟨i, n, ⟨⟨p, u⟩, ys⟩, ae, ce, hi, rfl, rfl, hni, hrun, hde, hB, ho, hz, hZr, hgr, hb⟩ := hrel
    have HB := Lib.hid hB
    have HO := Lib.hid ho
    have HZr := Lib.hid hZr
    have HG := Lib.hid hgr
    have HDE := Lib.hid hde
    have HR := Lib.hid hrun
    clear hB ho hZr hgr hde hrun
    obtain ⟨⟨y0, y1, y2⟩, v0, v1, v2⟩ := dk_facts HB.out
    obtain ⟨⟨z0, z1, z2⟩, f0, f1, f2⟩ := dk_facts HZr.out
    by_cases hlt : i < l.length
    · have hst : ∀ f ok, doR ((p, u), ys) (l.getD i nilDd) = (f, ok) → runD ((m, s), xs) (l.take (i + 1)) = (f, cond ok (n + 1) n) ∧ dkB f = true ∧ (ok = false → f = ((p, u), ys)) := fun f ok hr => run_step hlt HR.out HDE.out hr
      have htD := HT.out _ (getDd_mem hlt)
      rcases (HL.out.grown HG.out).2 with q | ⟨bx, ox, rfl, _, hcx⟩
      · rw [q] at hlt; simp at hlt
      obtain ⟨k0, k1, k2⟩ := hcx i hlt
      clear hcx
      obtain ⟨D, hD⟩ : ∃ D, D = l.getD i nilDd := ⟨_, rfl⟩
      rw [← hD] at hst htD k0 k1 k2
      obtain ⟨⟨⟨⟨p2, u2⟩, ys2⟩, ok⟩, hR⟩ : ∃ R, R = doR ((p, u), ys) D := ⟨_, rfl⟩
      have HS := Lib.hid (hst _ _ hR.symm)
      have cd : ∀ W, LdsAt W ae ys → Calls Try.prog 26 #[.agg #[.int .i64 p, .string (bs u), .slice ae ys.length ce], .agg #[.int .i64 D.1, .int .i64 D.2.1, .string (bs D.2.2)]] W fun e w' => ∃ a' cap', e = .returned (.tuple #[.agg #[.int .i64 p2, .string (bs u2), .slice a' ys2.length cap'], .bool ok]) ∧ OwnL w' W.heap.size a' ys2 ∧ (a' = none → cap' = 0) ∧ W.grownBy w' none := fun W hW => by
        have := ido_any ((p, u), ys) D ae ce W hW hz htD
        rw [← hR] at this
        exact this
      clear hst hR hD htD HDE
      have gE := World.grownBy_alloc wr (.cells #[.int .i64 D.1, .int .i64 D.2.1, .string (bs D.2.2)] 39) none
      obtain ⟨e0, e1, e2⟩ := (CellsAt.new wr #[.int .i64 D.1, .int .i64 D.2.1, .string (bs D.2.2)] 39).three
      obtain ⟨b0, b1, b2⟩ := (HB.out.grown gE).three
      clear y0 y1 y2 v0 v1 v2 z0 z1 z2 f0 f1 f2
      go_wp2_with fail
      refine (cd _ (HO.out.at.grown gE)).mono ?_
      rintro e w3 ⟨a3, c3, rfl, o3, z3, hg3⟩
      have gX := World.grownBy_alloc w3 (.cells #[.int .i64 p2, .string (bs u2), .slice a3 ys2.length c3] 31) none
      have gg := Lib.hid (grownBy_trans gE (grownBy_trans hg3 gX))
      obtain ⟨x0, x1, x2⟩ := (CellsAt.new w3 #[.int .i64 p2, .string (bs u2), .slice a3 ys2.length c3] 31).three
      have HB4 := Lib.hid (HB.out.grown gg.out)
      have HZ4 := Lib.hid (HZr.out.grown gg.out)
      have so : w.heap.size ≤ wr.heap.size := HG.out.size
      have O4 := Lib.hid ((o3.kept gX).mono (base' := w.heap.size) (Nat.le_trans so gE.size))
      have G4 := Lib.hid (grownBy_trans HG.out gg.out)
      obtain ⟨⟨y0, y1, y2⟩, v0, v1, v2⟩ := dk_facts HB4.out
      clear o3 hg3 gX cd e0 e1 e2 b0 b1 b2 gE k0 k1 k2
      cases ok
      · go_wp2_with fail
        go_roundw
        case rel => exact ⟨i + 1, n, ((p2, u2), ys2), a3, c3, by omega, by go_num, rfl, by omega, HS.out.1, HS.out.2.1, HB4.out.put3 _ _ _, O4.out.put3 ⟨_, HB4.out⟩ _ _ _, z3, HZ4.out.kept (put3_past _ bA _ _ _) (by simp; omega), put3_grown _ G4.out (by omega) _ _ _, hb⟩
        case measure => simp [intOf]; omega
      · go_wp2_with fail
        go_roundw
        case rel => exact ⟨i + 1, n + 1, ((p2, u2), ys2), a3, c3, by omega, by go_num, by go_num, by omega, HS.out.1, HS.out.2.1, HB4.out.put3 _ _ _, O4.out.put3 ⟨_, HB4.out⟩ _ _ _, z3, HZ4.out.kept (put3_past _ bA _ _ _) (by simp; omega), put3_grown _ G4.out (by omega) _ _ _, hb⟩
        case measure => simp [intOf]; omega
    · obtain rfl : i = l.length := by omega
      have e := HR.out
      rw [List.take_length] at e
      have F := Lib.hid (HZr.out.put3 (.int .i64 p) (.string (bs u)) (.slice ae ys.length ce))
      have P : Hid (RunPost (runD ((m, s), xs) l) w (.returned (.tuple #[.agg #[.int .i64 p, .string (bs u), .slice ae ys.length ce], .int .i64 (n : Int)])) (((wr.setCell ⟨w.heap.size + 1, 0, none⟩ (.int .i64 p)).setCell ⟨w.heap.size + 1, 1, none⟩ (.string (bs u))).setCell ⟨w.heap.size + 1, 2, none⟩ (.slice ae ys.length ce))) := by
        rw [e]
        exact ⟨ae, ce, rfl, HO.out.put3 ⟨_, HZr.out⟩ _ _ _, hz, put3_grown _ HG.out (by omega) _ _ _⟩
      clear e
      go_wp2_with fail
      exact bodyPost_ret (v := .tuple #[.agg #[.int .i64 p, .string (bs u), .slice ae ys.length ce], .int .i64 (n : Int)]) (resDkB (b := .int .i64 (n : Int)) rfl _ rfl rfl F.out) rfl P.out


set_option maxRecDepth 8000 in
set_option maxHeartbeats 8000000 in
theorem srun_ok (m : Int) (s : List UInt8) (xs : List Ld) (l : List Dd) (a b : Option Addr) (cap capb : Nat) (w : World) (h : LdsAt w a xs) (h0 : a = none → cap = 0) (hl : DdsAt w b l) (_ht : ∀ x ∈ l, x.2.2.length ≤ 4000000) (hd : dkB ((m, s), xs) = true) (hn : l.length ≤ 40) :
    Calls Try.prog 31 #[.agg #[.int .i64 m, .string (bs s), .slice a xs.length cap], .slice b l.length capb] w (RunPost (runD ((m, s), xs) l) w) := by
  have g2 : w.grownBy ((w.alloc (.cells #[.int .i64 m, .string (bs s), .slice a xs.length cap] 31)).alloc (.cells #[.int .i64 0, .string ⟨#[]⟩, .slice none 0 0] 31)) none := grownBy_trans (World.grownBy_alloc w _ none) (World.grownBy_alloc _ _ none)
  have hZ := Lib.hid (CellsAt.second w (.cells #[.int .i64 m, .string (bs s), .slice a xs.length cap] 31) #[.int .i64 0, .string ⟨#[]⟩, .slice none 0 0] 31)
  have hD := Lib.hid (CellsAt.first w (.cells #[.int .i64 0, .string ⟨#[]⟩, .slice none 0 0] 31) #[.int .i64 m, .string (bs s), .slice a xs.length cap] 31)
  have ck := sdesk_is ((m, s), xs) a cap _ (h.grown g2)
  rw [hd] at ck
  unfold dkV at ck
  have hx8 : xs.length ≤ 9 := by have := (dkB_of hd).2.2; change xs.length ≤ 8 at this; omega
  have cc : ∀ W, LdsAt W a xs → Calls Try.prog 63 #[.agg #[.int .i64 m, .string (bs s), .slice a xs.length cap]] W fun e w' => ∃ a' cap', e = .returned (.agg #[.int .i64 m, .string (bs s), .slice a' xs.length cap']) ∧ Own2 w' W.heap.size a' cap' xs ∧ W.grownBy w' none := fun W hW => scopy_any ((m, s), xs) a cap W hW h0 hx8
  have HX := Lib.hid (h.grown g2)
  have HL := Lib.hid hl
  have HD := Lib.hid hd
  have G2 := Lib.hid g2
  have hll : ¬ ((40 : Int) < (l.length : Int)) := by omega
  clear h g2 hl hd h0
  go_enter Try.func31, Try.ntmps31
  go_wp2_with fail
  generalize (w.alloc (.cells #[.int .i64 m, .string (bs s), .slice a xs.length cap] 31)).alloc (.cells #[.int .i64 0, .string ⟨#[]⟩, .slice none 0 0] 31) = W at *
  refine ck.mono ?_
  rintro e w1 ⟨rfl, hg1⟩
  obtain ⟨d0, d1, d2⟩ := (hD.out.grown hg1).three
  clear ck
  go_wp2_with fail
  refine (cc _ (HX.out.grown hg1)).mono ?_
  rintro e w2 ⟨a2, c2, rfl, ho, hg2⟩
  have g02 := grownBy_trans G2.out (grownBy_trans hg1 hg2)
  have hA := CellsAt.new w2 #[.int .i64 m, .string (bs s), .slice a2 xs.length c2] 31
  have gA := World.grownBy_alloc w2 (.cells #[.int .i64 m, .string (bs s), .slice a2 xs.length c2] 31) none
  have s1 : w.heap.size ≤ w1.heap.size := (grownBy_trans G2.out hg1).size
  have hZ2 := (hZ.out.grown (grownBy_trans hg1 hg2)).grown gA
  have hlt := (hZ.out.grown (grownBy_trans hg1 hg2)).lt
  have hInit : Hid (RunI w w2.heap.size ((m, s), xs) l (.int .i64 ((0 : Nat) : Int)) (.int .i64 ((0 : Nat) : Int)) (w2.alloc (.cells #[.int .i64 m, .string (bs s), .slice a2 xs.length c2] 31))) := ⟨0, 0, ((m, s), xs), a2, c2, by omega, rfl, rfl, by omega, by rw [List.take_zero]; rfl, HD.out, hA, (ho.kept gA).l.mono s1, (ho.kept gA).bare, hZ2, grownBy_trans g02 gA, hlt⟩
  clear ho hg1 hg2 g02 gA s1 hZ2 hA cc d0 d1 d2
  go_wp2_with fail
  generalize w2.alloc (.cells #[.int .i64 m, .string (bs s), .slice a2 xs.length c2] 31) = W2 at *
  generalize w2.heap.size = bA at *
  go_loopw [8, 7] (fun iv nv wr => RunI w bA ((m, s), xs) l iv nv wr) (fun iv _ _ => l.length - (intOf iv).toNat)
  case atStart => exact hInit.out
  case round =>
    obtain ⟨i, n, ⟨⟨p, u⟩, ys⟩, ae, ce, hi, rfl, rfl, hni, hrun, hde, hB, ho, hz, hZr, hgr, hb⟩ := hrel
    have HB := Lib.hid hB
    have HO := Lib.hid ho
    have HZr := Lib.hid hZr
    have HG := Lib.hid hgr
    have HDE := Lib.hid hde
    have HR := Lib.hid hrun
    clear hB ho hZr hgr hde hrun
    obtain ⟨⟨y0, y1, y2⟩, v0, v1, v2⟩ := dk_facts HB.out
    obtain ⟨⟨z0, z1, z2⟩, f0, f1, f2⟩ := dk_facts HZr.out
    by_cases hlt : i < l.length
    · have hst : ∀ f ok, doR ((p, u), ys) (l.getD i nilDd) = (f, ok) → runD ((m, s), xs) (l.take (i + 1)) = (f, cond ok (n + 1) n) ∧ dkB f = true ∧ (ok = false → f = ((p, u), ys)) := fun f ok hr => run_step hlt HR.out HDE.out hr
      rcases (HL.out.grown HG.out).2 with q | ⟨bx, ox, rfl, _, hcx⟩
      · rw [q] at hlt; simp at hlt
      obtain ⟨k0, k1, k2⟩ := hcx i hlt
      clear hcx
      obtain ⟨D, hD⟩ : ∃ D, D = l.getD i nilDd := ⟨_, rfl⟩
      rw [← hD] at hst k0 k1 k2
      obtain ⟨⟨⟨⟨p2, u2⟩, ys2⟩, ok⟩, hR⟩ : ∃ R, R = doR ((p, u), ys) D := ⟨_, rfl⟩
      have HS := Lib.hid (hst _ _ hR.symm)
      have cd : ∀ W, LdsAt W ae ys → Calls Try.prog 27 #[.agg #[.int .i64 p, .string (bs u), .slice ae ys.length ce], .agg #[.int .i64 D.1, .int .i64 D.2.1, .string (bs D.2.2)]] W fun e w' => ∃ a' cap', e = .returned (.tuple #[.agg #[.int .i64 p2, .string (bs u2), .slice a' ys2.length cap'], .bool ok]) ∧ OwnL w' W.heap.size a' ys2 ∧ (a' = none → cap' = 0) ∧ W.grownBy w' none := fun W hW => by
        have := sdo_do ((p, u), ys) D ae ce W hW hz
        rw [← hR] at this
        exact this
      clear hst hR hD HDE
      clear z0 z1 z2 f0 f1 f2 y0 y1 y2 v0 v1 v2
      have KS : Hid (∀ w', wr.grownBy w' none → w'.cell? ⟨bA, 0, none⟩ = some (.int .i64 p) ∧ w'.cell? ⟨bA, 1, none⟩ = some (.string (bs u)) ∧ w'.cell? ⟨bA, 2, none⟩ = some (.slice ae ys.length ce) ∧ w'.cell? ⟨bx, ox + i * 3, none⟩ = some (.int .i64 D.1) ∧ w'.cell? ⟨bx, ox + i * 3 + 1, none⟩ = some (.int .i64 D.2.1) ∧ w'.cell? ⟨bx, ox + i * 3 + 2, none⟩ = some (.string (bs D.2.2)) ∧ wr.grownBy w' none) := fun w' g => ⟨(HB.out.grown g).three.1, (HB.out.grown g).three.2.1, (HB.out.grown g).three.2.2, g.cell k0 (by simp), g.cell k1 (by simp), g.cell k2 (by simp), g⟩
      clear k0 k1 k2
      have lbb := HB.out.lt
      go_wp2_with fail
      go_cut [9, 10] from 22 to 40 (fun pv bv wc => GotZ wr p2 u2 ys2 ok pv bv wc)
      case first =>
        go_region_held3 (fun w' => w'.cell? ⟨bA, 0, none⟩ = some (.int .i64 p) ∧ w'.cell? ⟨bA, 1, none⟩ = some (.string (bs u)) ∧ w'.cell? ⟨bA, 2, none⟩ = some (.slice ae ys.length ce) ∧ w'.cell? ⟨bx, ox + i * 3, none⟩ = some (.int .i64 D.1) ∧ w'.cell? ⟨bx, ox + i * 3 + 1, none⟩ = some (.int .i64 D.2.1) ∧ w'.cell? ⟨bx, ox + i * 3 + 2, none⟩ = some (.string (bs D.2.2)) ∧ wr.grownBy w' none) (first | exact KS.out _ (grownBy_drew (grownBy_refl _ none)) | exact KS.out _ (grownBy_trans (lastS7 (by assumption)) gd) | exact KS.out _ (grownBy_trans (lastS7 (by assumption)) (World.grownBy_alloc _ _ none)) | exact KS.out _ (grownBy_trans G3.out (World.grownBy_alloc _ _ none)) | exact KS.out _ (put3_grown _ G3.out (by exact Nat.le_refl _) _ _ _) | exact KS.out _ (put3_grown _ (grownBy_trans G3.out (World.grownBy_alloc _ _ none)) G3.out.size _ _ _)) (first | (go_at_call 27; (with_reducible refine (cd _ (HO.out.at.grown (lastS7 (by assumption)))).mono ?_); rintro e wd ⟨a3, c3, rfl, o3, z3, gd⟩; have G3 := Lib.hid (grownBy_trans (lastS7 (by assumption)) gd); have OW := Lib.hid (o3.mono (base' := wr.heap.size) (sizeS7 (by assumption))); have HN := Lib.hid (CellsAt.new wd #[.int .i64 0, .string ⟨#[]⟩, .slice none 0 0] 31); obtain ⟨⟨n0, n1, n2⟩, n3, n4, n5⟩ := dk_facts HN.out; have nl := HN.out.lt; (first | (with_reducible have HZ := Lib.hid (zero_1 (drew_grown gd)); obtain ⟨⟨q0, q1, q2⟩, j0, j1, j2⟩ := dk_facts HZ.out; have zl := HZ.out.lt) | (with_reducible have HZ := Lib.hid (zero_1 gd); obtain ⟨⟨q0, q1, q2⟩, j0, j1, j2⟩ := dk_facts HZ.out; have zl := HZ.out.lt) | skip)))
        all_goals go_wp2_with fail
        all_goals go_meet
        all_goals first | with_reducible exact gotZ_new OW.out z3 (Nat.le_refl _) G3.out | with_reducible exact gotZ_old (OW.out.kept (World.grownBy_alloc _ _ none)) z3 (Nat.le_refl _) (grownBy_trans G3.out (World.grownBy_alloc _ _ none)) HN.out G3.out.size | with_reducible exact gotZ_old OW.out z3 (Nat.le_refl _) G3.out HZ.out (Nat.le_refl _) | (trace_state; fail)
      case rest =>
        obtain ⟨c, a3, c3, rfl, rfl, hcs, hC, o3, z3, hg3⟩ := hcut
        have HB4 := Lib.hid (HB.out.grown hg3)
        have HZ4 := Lib.hid (HZr.out.grown hg3)
        have so : w.heap.size ≤ wr.heap.size := HG.out.size
        have O4 := Lib.hid (o3.mono (base' := w.heap.size) so)
        have G4 := Lib.hid (grownBy_trans HG.out hg3)
        have OE := Lib.hid (HO.out.kept hg3)
        obtain ⟨⟨y0, y1, y2⟩, v0, v1, v2⟩ := dk_facts HB4.out
        obtain ⟨x0, x1, x2⟩ := hC.three
        clear o3 hg3 hC cd
        cases ok
        · have e := HS.out.2.2 rfl
          cases e
          go_wp2_with fail
          go_roundw
          case rel => exact ⟨i + 1, n, ((p, u), ys), ae, ce, by omega, by go_num, rfl, by omega, HS.out.1, HS.out.2.1, HB4.out, OE.out, hz, HZ4.out, G4.out, hb⟩
          case measure => simp [intOf]; omega
        · go_wp2_with fail
          go_roundw
          case rel => exact ⟨i + 1, n + 1, ((p2, u2), ys2), a3, c3, by omega, by go_num, by go_num, by omega, HS.out.1, HS.out.2.1, HB4.out.put3 _ _ _, O4.out.put3 ⟨_, HB4.out⟩ _ _ _, z3, HZ4.out.kept (put3_past _ bA _ _ _) (by simp; omega), put3_grown _ G4.out (by omega) _ _ _, hb⟩
          case measure => simp [intOf]; omega
    · obtain rfl : i = l.length := by omega
      have e := HR.out
      rw [List.take_length] at e
      have F := Lib.hid (HZr.out.put3 (.int .i64 p) (.string (bs u)) (.slice ae ys.length ce))
      have P : Hid (RunPost (runD ((m, s), xs) l) w (.returned (.tuple #[.agg #[.int .i64 p, .string (bs u), .slice ae ys.length ce], .int .i64 (n : Int)])) (((wr.setCell ⟨w.heap.size + 1, 0, none⟩ (.int .i64 p)).setCell ⟨w.heap.size + 1, 1, none⟩ (.string (bs u))).setCell ⟨w.heap.size + 1, 2, none⟩ (.slice ae ys.length ce))) := by
        rw [e]
        exact ⟨ae, ce, rfl, HO.out.put3 ⟨_, HZr.out⟩ _ _ _, hz, put3_grown _ HG.out (by omega) _ _ _⟩
      clear e
      go_wp2_with fail
      exact bodyPost_ret (v := .tuple #[.agg #[.int .i64 p, .string (bs u), .slice ae ys.length ce], .int .i64 (n : Int)]) (resDkB (b := .int .i64 (n : Int)) rfl _ rfl rfl F.out) rfl P.out


theorem irun_any (d : Dk) (l : List Dd) (a b : Option Addr) (cap capb : Nat) (w : World) (h : LdsAt w a d.2) (h0 : a = none → cap = 0) (hl : DdsAt w b l) (ht : ∀ x ∈ l, x.2.2.length ≤ 4000000) :
    Calls Try.prog 30 #[dkV d a cap, .slice b l.length capb] w (RunPost (runR d l) w) := by
  obtain ⟨⟨m, s⟩, xs⟩ := d
  unfold runR
  by_cases hd : dkB ((m, s), xs) = true ∧ l.length ≤ 40
  · rw [if_pos hd]; exact irun_ok m s xs l a b cap capb w h h0 hl ht hd.1 hd.2
  · rw [if_neg hd]
    refine irun_bad m s xs l a b cap capb w h ?_
    cases e : dkB ((m, s), xs)
    · exact .inl rfl
    · exact .inr ⟨rfl, Nat.lt_of_not_le fun q => hd ⟨e, q⟩⟩
theorem srun_any (d : Dk) (l : List Dd) (a b : Option Addr) (cap capb : Nat) (w : World) (h : LdsAt w a d.2) (h0 : a = none → cap = 0) (hl : DdsAt w b l) (ht : ∀ x ∈ l, x.2.2.length ≤ 4000000) :
    Calls Try.prog 31 #[dkV d a cap, .slice b l.length capb] w (RunPost (runR d l) w) := by
  obtain ⟨⟨m, s⟩, xs⟩ := d
  unfold runR
  by_cases hd : dkB ((m, s), xs) = true ∧ l.length ≤ 40
  · rw [if_pos hd]; exact srun_ok m s xs l a b cap capb w h h0 hl ht hd.1 hd.2
  · rw [if_neg hd]
    refine srun_bad m s xs l a b cap capb w h ?_
    cases e : dkB ((m, s), xs)
    · exact .inl rfl
    · exact .inr ⟨rfl, Nat.lt_of_not_le fun q => hd ⟨e, q⟩⟩

end Go.Proofs.Ytnkebgkocpeonaa

/-
  The walk of FnDeskOk.
-/
namespace Go.Proofs.Ytnkebgkocpeonaa
open Go.RowKit

theorem deedC : DeedC := fun w r P hr hP => deed_draw w r P hr hP
def DkPost (w : World) (e : Ending) (w' : World) : Prop := ∃ (d : Dk) (a : Option Addr) (cap : Nat), e = .returned (dkV d a cap) ∧ LdsAt w' a d.2 ∧ (a = none → cap = 0) ∧ w.grownBy w' none

set_option maxRecDepth 8000 in
set_option maxHeartbeats 2000000 in
theorem DrawDeskOk_any (a : Option Addr) (len cap : Nat) (zs : List Int) (w : World) (h : IsRow .u8 w a len cap zs) :
    Calls Try.prog 17 #[.slice a len cap] w (DkPost w) := by
  have g0 := World.grownBy_alloc w (.cells #[.int .i64 0, .string ⟨#[]⟩, .slice none 0 0] 31) none
  have hB := CellsAt.new w #[.int .i64 0, .string ⟨#[]⟩, .slice none 0 0] 31
  have ha := h.up g0
  have hR : (w.alloc (.cells #[.int .i64 0, .string ⟨#[]⟩, .slice none 0 0] 31)).heap.size = w.heap.size + 1 := by show (w.heap.push _).size = _; rw [Array.size_push]
  have HR := Lib.hid hR
  have co := open_draw a len cap zs _ ha
  unfold OpenPost at co
  rw [hR] at co
  have HB := Lib.hid hB
  have G0 := Lib.hid g0
  clear h hB g0 hR ha
  go_enter Try.func17, Try.ntmps17
  go_wp2_with fail
  refine co.mono ?_
  rintro e w1 ⟨rfl, hr1, hg1⟩
  have cd := desk_draw deedC 2 w1 (w.heap.size + 1) 0 hr1 (by omega) (by omega) (by omega)
  have hl1 := hr1.lt
  clear co
  go_wp2_with fail
  refine cd.mono ?_
  rintro e w2 ⟨d, a2, c2, rfl, ho, hr2, hg2⟩
  obtain ⟨⟨m, s⟩, xs⟩ := d
  have hgg := grownBy_own hg1 (by rw [HR.out]; exact hg2)
  have HW := Lib.hid (HB.out.grown hgg)
  obtain ⟨⟨z0, z1, z2⟩, f0, f1, f2⟩ := three_facts HW.out
  have F := Lib.hid (HW.out.put3 (.int .i64 m) (.string (bs s)) (.slice a2 xs.length c2))
  have P := Lib.hid (show DkPost w (.returned (.agg #[.int .i64 m, .string (bs s), .slice a2 xs.length c2])) _ from ⟨((m, s), xs), a2, c2, rfl, (ho.past (put3_past w2 w.heap.size (.int .i64 m) (.string (bs s)) (.slice a2 xs.length c2)) (by omega)).at, ho.bare, put3_grown _ (grownBy_trans G0.out hgg) (Nat.le_refl _) _ _ _⟩)
  clear ho hr2 hg2 hg1 hr1 hgg cd
  unfold dkV
  go_wp2_with fail
  exact bodyPost_ret (v := .agg #[.int .i64 m, .string (bs s), .slice a2 xs.length c2]) (resDk rfl _ rfl F.out) rfl P.out

set_option maxRecDepth 100000 in
set_option maxHeartbeats 4000000 in
theorem FnDeskOk_walk (a0 : Option Addr) (len0 cap0 : Nat) (z0 : List Int) (w : World) (w0 : IsRow .u8 w a0 len0 cap0 z0) :
    Calls Try.prog 4 #[.slice a0 len0 cap0] w fun e w' => e = .returned (.bool true) ∧ Below w.heap.size w w' := by
  by_cases hl : (1048576 : Int) < (len0 : Int)
  · clear w0
    go_enter Try.func4, Try.ntmps4
    go_wp2_with fail
    go_ret
    exact ⟨rfl, Below.refl _ _⟩
  · go_enter Try.func4, Try.ntmps4
    go_wp2_with fail
    refine (DrawDeskOk_any _ _ _ _ _ w0).mono ?_
    rintro e w1 ⟨d, a, c, rfl, hd, h0, g1⟩
    clear w0 h0
    obtain ⟨⟨m, s⟩, xs⟩ := d
    have hA := CellsAt.new w1 #[.int .i64 m, .string (bs s), .slice a xs.length c] 31
    have gA := World.grownBy_alloc w1 (.cells #[.int .i64 m, .string (bs s), .slice a xs.length c] 31) none
    have hx := hd.grown gA
    have G1 := Lib.hid (grownBy_trans g1 gA)
    clear g1 hd gA
    unfold dkV
    go_wp2_with fail
    change LdsAt _ a xs at hx
    generalize w1.alloc (.cells #[.int .i64 m, .string (bs s), .slice a xs.length c] 31) = W1 at *
    generalize w1.heap.size = b at *
    have HA := Lib.hid hA
    have HX := Lib.hid hx
    clear hA hx
    have c1 : ∀ w, W1.grownBy w none → Calls Try.prog 18 #[.agg #[.int .i64 m, .string (bs s), .slice a xs.length c]] w fun e w' => e = .returned (.bool (dkB ((m, s), xs))) ∧ w.grownBy w' none := fun w hg => idesk_any ((m, s), xs) a c w (HX.out.grown hg)
    have c2 : ∀ w, W1.grownBy w none → Calls Try.prog 19 #[.agg #[.int .i64 m, .string (bs s), .slice a xs.length c]] w fun e w' => e = .returned (.bool (dkB ((m, s), xs))) ∧ w.grownBy w' none := fun w hg => sdesk_is ((m, s), xs) a c w (HX.out.grown hg)
    have c3 : ∀ w, Calls Try.prog 18 #[.agg #[.int .i64 m, .string (bs s), .slice none 0 0]] w fun e w' => e = .returned (.bool (dkB ((m, s), []))) ∧ w.grownBy w' none := fun w => idesk_any ((m, s), []) none 0 w (LdsAt.nil _ _)
    have c4 : ∀ w, Calls Try.prog 18 #[.agg #[.int .i64 0, .string ⟨#[]⟩, .slice none 0 0]] w fun e w' => e = .returned (.bool false) ∧ w.grownBy w' none := fun w => idesk_any ((0, []), []) none 0 w (LdsAt.nil _ _)
    have hb : dkB ((m, s), xs) = true → dkB ((m, s), []) = true := fun h => dkB_bare h
    have hvv : (dkB ((m, s), xs) != dkB ((m, s), xs)) = false := by simp
    refine (c1 _ (grownBy_refl _ _)).mono ?_
    rintro e w2 ⟨rfl, g2⟩
    obtain ⟨x0, x1, x2⟩ := (HA.out.grown g2).three
    have G2 := Lib.hid g2
    clear g2
    go_wp2_with fail
    refine (c2 _ G2.out).mono ?_
    rintro e w3 ⟨rfl, g3⟩
    have G3 := Lib.hid (grownBy_trans G2.out g3)
    obtain ⟨x0, x1, x2⟩ := (HA.out.grown G3.out).three
    clear g3 c1 c2
    cases hv : dkB ((m, s), xs)
    · rw [hv] at hvv
      clear hb
      go_wp2_with (first | (go_at_call 18; (with_reducible refine (c4 _).mono ?_); rintro e w5 ⟨rfl, g5⟩) | (go_at_call 16; refine (alive_any _).mono ?_; rintro e w' ⟨rfl, rfl⟩))
      go_ret
      exact ⟨rfl, below_of (grownBy_trans G1.out (grownBy_trans G3.out g5))⟩
    · rw [hv] at hvv
      rw [hb hv] at c3
      clear hb
      go_wp2_with (first | (go_at_call 18; (with_reducible refine (c3 _).mono ?_); rintro e w4 ⟨rfl, g4⟩; clear c3) | (go_at_call 18; (with_reducible refine (c4 _).mono ?_); rintro e w5 ⟨rfl, g5⟩) | (go_at_call 16; refine (alive_any _).mono ?_; rintro e w' ⟨rfl, rfl⟩))
      go_ret
      exact ⟨rfl, below_of (grownBy_trans G1.out (grownBy_trans G3.out (grownBy_trans g4 g5)))⟩

end Go.Proofs.Ytnkebgkocpeonaa

/-
  The walk of FnDeskRun.
-/
namespace Go.Proofs.Ytnkebgkocpeonaa
open Go.RowKit

/-- A variable with a desk that was answered, and a value beside it. -/
def GotV (W : World) (m : Int) (s : List UInt8) (xs : List Ld) (v0 p v : Value) (wc : World) : Prop :=
  ∃ (b : Nat) (a : Option Addr) (cap : Nat), p = .pointer (some ⟨b, 0, none⟩) ∧ v = v0 ∧ W.heap.size ≤ b ∧ CellsAt wc b #[.int .i64 m, .string (bs s), .slice a xs.length cap] 31 ∧ OwnL wc W.heap.size a xs ∧ (a = none → cap = 0) ∧ W.grownBy wc none
theorem gotV_new {W wc : World} {m : Int} {s : List UInt8} {xs : List Ld} {v0 : Value} {a : Option Addr} {cap base : Nat} (ho : OwnL wc base a xs) (hz : a = none → cap = 0) (hb : W.heap.size ≤ base) (hg : W.grownBy wc none) :
    GotV W m s xs v0 (.pointer (some ⟨wc.heap.size, 0, none⟩)) v0 (wc.alloc (.cells #[.int .i64 m, .string (bs s), .slice a xs.length cap] 31)) :=
  ⟨_, a, cap, rfl, rfl, hg.size, CellsAt.new wc _ _, (ho.kept (World.grownBy_alloc _ _ none)).mono hb, hz, grownBy_trans hg (World.grownBy_alloc _ _ none)⟩
theorem gotV_old {W wc : World} {m : Int} {s : List UInt8} {xs : List Ld} {v0 : Value} {a : Option Addr} {cap base b : Nat} {x y z : Value} (ho : OwnL wc base a xs) (hz : a = none → cap = 0) (hb : W.heap.size ≤ base) (hg : W.grownBy wc none) (hB : CellsAt wc b #[x, y, z] 31) (hw : W.heap.size ≤ b) :
    GotV W m s xs v0 (.pointer (some ⟨b, 0, none⟩)) v0 (((wc.setCell ⟨b, 0, none⟩ (.int .i64 m)).setCell ⟨b, 1, none⟩ (.string (bs s))).setCell ⟨b, 2, none⟩ (.slice a xs.length cap)) :=
  ⟨b, a, cap, rfl, rfl, hw, hB.put3 _ _ _, (ho.beside ⟨_, hB⟩ (put3_past wc b _ _ _)).mono hb, hz, put3_grown b hg hw _ _ _⟩
theorem lastS4 {a b c d : Prop} (h : a ∧ b ∧ c ∧ d) : d := h.2.2.2
theorem sizeS4 {a b c : Prop} {W W' : World} {row : Option Nat} (h : a ∧ b ∧ c ∧ W.grownBy W' row) : W.heap.size ≤ W'.heap.size := h.2.2.2.size

theorem runR_ok {d : Dk} {l : List Dd} (h : dkB d = true ∧ l.length ≤ 40) : runR d l = runD d l := if_pos h
theorem runR_no {d : Dk} {l : List Dd} (h : ¬ (dkB d = true ∧ l.length ≤ 40)) : runR d l = (nilDk, 0) := if_neg h
/-- Two parts, one after the other. -/
theorem run_parts {d e e1 e2 : Dk} {l : List Dd} {n n1 n2 H : Nat} (hd : dkB d = true ∧ l.length ≤ 40) (h : runR d l = (e, n)) (h1 : runR d (l.take H) = (e1, n1)) (h2 : runR e1 (l.drop H) = (e2, n2)) : e2 = e ∧ n1 + n2 = n ∧ dkB e = true ∧ n1 ≤ 40 ∧ n2 ≤ 40 := by
  rw [runR_ok hd] at h
  have l1 : (l.take H).length ≤ 40 := by rw [List.length_take]; omega
  have l2 : (l.drop H).length ≤ 40 := by rw [List.length_drop]; omega
  rw [runR_ok ⟨hd.1, l1⟩] at h1
  have ok1 := run_ok (l.take H) hd.1
  have q1 := run_le (l.take H) d
  rw [h1] at ok1 q1
  rw [runR_ok ⟨ok1, l2⟩] at h2
  have q2 := run_le (l.drop H) e1
  rw [h2] at q2
  have := run_app (l.take H) (l.drop H) d
  rw [List.take_append_drop, h, h1, h2] at this
  cases this
  have ok := run_ok l hd.1
  rw [h] at ok
  change n1 ≤ _ at q1
  change n2 ≤ _ at q2
  exact ⟨rfl, rfl, ok, by omega, by omega⟩

set_option maxRecDepth 100000 in
set_option maxHeartbeats 16000000 in
theorem FnDeskRun_walk (a0 : Option Addr) (len0 cap0 : Nat) (z0 : List Int) (w : World) (w0 : IsRow .u8 w a0 len0 cap0 z0) :
    Calls Try.prog 7 #[.slice a0 len0 cap0] w fun e w' => e = .returned (.bool true) ∧ Below w.heap.size w w' := by
  by_cases hl : (1048576 : Int) < (len0 : Int)
  · clear w0
    go_enter Try.func7, Try.ntmps7
    go_wp2_with fail
    go_ret
    exact ⟨rfl, Below.refl _ _⟩
  · go_enter Try.func7, Try.ntmps7
    go_wp2_with fail
    refine (DrawDeskRun_any deedC _ _ _ _ _ w0).mono ?_
    rintro e w1 ⟨d, a, c, l, b, capb, rfl, hd, h0, hdl, hway, hDl, g1⟩
    clear w0
    obtain ⟨⟨m, s⟩, xs⟩ := d
    obtain ⟨hlc, hcm, g, rfl⟩ := hway
    have hA := CellsAt.new w1 #[.int .i64 m, .string (bs s), .slice a xs.length c] 31
    have gA := World.grownBy_alloc w1 (.cells #[.int .i64 m, .string (bs s), .slice a xs.length c] 31) none
    have hx := hd.grown gA
    have hlx := hdl.grown gA
    have G1 := Lib.hid (grownBy_trans g1 gA)
    clear g1 hd gA hdl
    unfold dkV
    go_wp2_with fail
    change LdsAt _ a xs at hx
    generalize w1.alloc (.cells #[.int .i64 m, .string (bs s), .slice a xs.length c] 31) = W1 at *
    generalize w1.heap.size = bd at *
    have HA := Lib.hid hA
    have HX := Lib.hid hx
    have HL := Lib.hid hlx
    have HT := Lib.hid (show ∀ x ∈ l, x.2.2.length ≤ 4000000 from fun x hx => by have := hDl x hx; omega)
    clear hA hx hlx hDl
    obtain ⟨⟨⟨⟨p, u⟩, ys⟩, n⟩, hR⟩ : ∃ R, R = runR ((m, s), xs) l := ⟨_, rfl⟩
    have c1 : ∀ w, W1.grownBy w none → Calls Try.prog 30 #[.agg #[.int .i64 m, .string (bs s), .slice a xs.length c], .slice (some ⟨g, 0, none⟩) l.length capb] w fun e w' => ∃ a' cap', e = .returned (.tuple #[.agg #[.int .i64 p, .string (bs u), .slice a' ys.length cap'], .int .i64 (n : Int)]) ∧ OwnL w' w.heap.size a' ys ∧ (a' = none → cap' = 0) ∧ w.grownBy w' none := fun w hg => by
      have := irun_any ((m, s), xs) l a (some ⟨g, 0, none⟩) c capb w (HX.out.grown hg) h0 (HL.out.grown hg) HT.out
      rw [← hR] at this
      exact this
    have c2 : ∀ w, W1.grownBy w none → Calls Try.prog 31 #[.agg #[.int .i64 m, .string (bs s), .slice a xs.length c], .slice (some ⟨g, 0, none⟩) l.length capb] w fun e w' => ∃ a' cap', e = .returned (.tuple #[.agg #[.int .i64 p, .string (bs u), .slice a' ys.length cap'], .int .i64 (n : Int)]) ∧ OwnL w' w.heap.size a' ys ∧ (a' = none → cap' = 0) ∧ w.grownBy w' none := fun w hg => by
      have := srun_any ((m, s), xs) l a (some ⟨g, 0, none⟩) c capb w (HX.out.grown hg) h0 (HL.out.grown hg) HT.out
      rw [← hR] at this
      exact this
    refine (c1 _ (grownBy_refl _ _)).mono ?_
    rintro e w2 ⟨a1, k1, rfl, o1, z1, g2⟩
    have hX := CellsAt.new w2 #[.int .i64 p, .string (bs u), .slice a1 ys.length k1] 31
    have gX := World.grownBy_alloc w2 (.cells #[.int .i64 p, .string (bs u), .slice a1 ys.length k1] 31) none
    have o1' := o1.at.grown gX
    have G2 := Lib.hid (grownBy_trans g2 gX)
    obtain ⟨x0, x1, x2⟩ := (HA.out.grown G2.out).three
    clear g2 o1 gX c1
    go_wp2_with fail
    generalize w2.alloc (.cells #[.int .i64 p, .string (bs u), .slice a1 ys.length k1] 31) = W2 at *
    generalize w2.heap.size = bx at *
    have HB := Lib.hid hX
    have L1 := Lib.hid o1'
    clear hX o1'
    refine (c2 _ G2.out).mono ?_
    rintro e w3 ⟨a2, k2, rfl, o2, z2, g3⟩
    have hY := CellsAt.new w3 #[.int .i64 p, .string (bs u), .slice a2 ys.length k2] 31
    have gY := World.grownBy_alloc w3 (.cells #[.int .i64 p, .string (bs u), .slice a2 ys.length k2] 31) none
    have g23 := grownBy_trans g3 gY
    have HBB := Lib.hid (HB.out.grown g23)
    have L1' := Lib.hid (L1.out.grown g23)
    have L2 := Lib.hid (o2.at.grown gY)
    have G3 := Lib.hid (grownBy_trans G2.out g23)
    obtain ⟨x0, x1, x2⟩ := HBB.out.three
    obtain ⟨y0, y1, y2⟩ := hY.three
    clear g3 o2 gY c2 g23 z2
    go_wp2_with fail
    generalize w3.alloc (.cells #[.int .i64 p, .string (bs u), .slice a2 ys.length k2] 31) = W3 at *
    generalize w3.heap.size = bb at *
    clear hY
    have c3 : ∀ w, W3.grownBy w none → Calls Try.prog 23 #[.agg #[.int .i64 p, .string (bs u), .slice a1 ys.length k1], .agg #[.int .i64 p, .string (bs u), .slice a2 ys.length k2]] w fun e w' => e = .returned (.bool true) ∧ w.grownBy w' none := fun w hg => by
      have := dksame_any ((p, u), ys) ((p, u), ys) a1 a2 k1 k2 w (L1'.out.grown hg) (L2.out.grown hg)
      rw [sameK_self] at this
      exact this
    refine (c3 _ (grownBy_refl _ _)).mono ?_
    rintro e w4 ⟨rfl, g4⟩
    have hvv : ((n : Int) != (n : Int)) = false := by simp
    have G4 := Lib.hid (grownBy_trans G3.out g4)
    have HB4 := Lib.hid (HBB.out.grown g4)
    have L4 := Lib.hid (L1'.out.grown g4)
    obtain ⟨x0, x1, x2⟩ := HB4.out.three
    obtain ⟨y0, y1, y2⟩ := (HA.out.grown G4.out).three
    clear c3 g4 HBB L1' L2 L1 HB
    have cO : ∀ w, W1.grownBy w none → Calls Try.prog 19 #[.agg #[.int .i64 m, .string (bs s), .slice a xs.length c]] w fun e w' => e = .returned (.bool (dkB ((m, s), xs))) ∧ w.grownBy w' none := fun w hg => sdesk_is ((m, s), xs) a c w (HX.out.grown hg)
    by_cases hdk : dkB ((m, s), xs) = true ∧ l.length ≤ 40
    case neg =>
      have hr := runR_no hdk
      rw [← hR] at hr
      cases hr
      have cn : ∀ w, w4.grownBy w none → Calls Try.prog 24 #[.agg #[.int .i64 0, .string (bs []), .slice a1 0 k1]] w fun e w' => e = .returned (.bool true) ∧ w.grownBy w' none := fun w hg => by
        have := dkno_any ((0, []), []) a1 k1 w (L4.out.grown hg)
        rw [show sameK ((0, []), []) nilDk = true from sameK_self _] at this
        exact this
      clear hR
      cases hd0 : dkB ((m, s), xs)
      · rw [hd0] at cO
        clear hdk
        go_wp2_with (first | (go_at_call 19; (with_reducible refine (cO _ G4.out).mono ?_); rintro e w5 ⟨rfl, g5⟩; obtain ⟨x0, x1, x2⟩ := (HB4.out.grown g5).three; have G5 := Lib.hid g5; clear g5 cO) | (go_at_call 24; (with_reducible refine (cn _ G5.out).mono ?_); rintro e w6 ⟨rfl, g6⟩) | (go_at_call 16; refine (alive_any _).mono ?_; rintro e w9 ⟨rfl, rfl⟩))
        go_ret
        exact ⟨rfl, below_of (grownBy_trans G1.out (grownBy_trans G4.out (grownBy_trans G5.out g6)))⟩
      · rw [hd0] at cO
        have hll : (40 : Int) < (l.length : Int) := by
          have : 40 < l.length := Nat.lt_of_not_le fun q => hdk ⟨hd0, q⟩
          omega
        clear hdk
        go_wp2_with (first | (go_at_call 19; (with_reducible refine (cO _ G4.out).mono ?_); rintro e w5 ⟨rfl, g5⟩; obtain ⟨x0, x1, x2⟩ := (HB4.out.grown g5).three; have G5 := Lib.hid g5; clear g5 cO) | (go_at_call 24; (with_reducible refine (cn _ G5.out).mono ?_); rintro e w6 ⟨rfl, g6⟩) | (go_at_call 16; refine (alive_any _).mono ?_; rintro e w9 ⟨rfl, rfl⟩))
        go_ret
        exact ⟨rfl, below_of (grownBy_trans G1.out (grownBy_trans G4.out (grownBy_trans G5.out g6)))⟩
    rw [hdk.1] at cO
    have hll : ¬ ((40 : Int) < (l.length : Int)) := by omega
    obtain ⟨H, hH⟩ : ∃ H, H = l.length / 2 := ⟨_, rfl⟩
    have hHl : H ≤ l.length := by omega
    have HH := Lib.hid hH
    have HH2 := Lib.hid (show ((l.length : Int) / 2) = (H : Int) by omega)
    have hl0 : (0 : Int) ≤ (l.length : Int) := by omega
    obtain ⟨⟨⟨⟨p1, v1⟩, zs1⟩, n1⟩, hR1⟩ : ∃ R, R = runR ((m, s), xs) (l.take H) := ⟨_, rfl⟩
    obtain ⟨⟨⟨⟨p2, v2⟩, zs2⟩, n2⟩, hR2⟩ : ∃ R, R = runR ((p1, v1), zs1) (l.drop H) := ⟨_, rfl⟩
    obtain ⟨he, hn12, hok, hn1, hn2⟩ := run_parts hdk hR.symm hR1.symm hR2.symm
    cases he
    have hlt : (l.take H).length = H := by rw [List.length_take]; omega
    have hld : (l.drop H).length = l.length - H := by rw [List.length_drop]
    have c4 : ∀ w, W1.grownBy w none → Calls Try.prog 30 #[.agg #[.int .i64 m, .string (bs s), .slice a xs.length c], .slice (some ⟨g, 0, none⟩) H capb] w fun e w' => ∃ a' cap', e = .returned (.tuple #[.agg #[.int .i64 p1, .string (bs v1), .slice a' zs1.length cap'], .int .i64 (n1 : Int)]) ∧ OwnL w' w.heap.size a' zs1 ∧ (a' = none → cap' = 0) ∧ w.grownBy w' none := fun w hg => by
      have := irun_any ((m, s), xs) (l.take H) a (some ⟨g, 0, none⟩) c capb w (HX.out.grown hg) h0 ((HL.out.take H).grown hg) (fun x hx => HT.out x (List.mem_of_mem_take hx))
      rw [← hR1, hlt] at this
      exact this
    go_wp2_with fail
    refine (cO _ G4.out).mono ?_
    rintro e w5 ⟨rfl, g5⟩
    have G5 := Lib.hid (grownBy_trans G4.out g5)
    have HB5 := Lib.hid (HB4.out.grown g5)
    have L5 := Lib.hid (L4.out.grown g5)
    have KS : Hid (∀ w', w5.grownBy w' none → w'.cell? ⟨bd, 0, none⟩ = some (.int .i64 m) ∧ w'.cell? ⟨bd, 1, none⟩ = some (.string (bs s)) ∧ w'.cell? ⟨bd, 2, none⟩ = some (.slice a xs.length c) ∧ w5.grownBy w' none) := fun w' g => ⟨(HA.out.grown (grownBy_trans G5.out g)).three.1, (HA.out.grown (grownBy_trans G5.out g)).three.2.1, (HA.out.grown (grownBy_trans G5.out g)).three.2.2, g⟩
    clear g5 cO HB4 L4 x0 x1 x2 y0 y1 y2 hH hHl
    go_wp2_with fail
    rw [HH2.out]
    have hHc : (H : Int) ≤ (capb : Int) := by have := HH.out; omega
    have hHl' : (H : Int) ≤ (l.length : Int) := by have := HH.out; omega
    have hH0 : (0 : Int) ≤ (H : Int) := by omega
    go_cut [10, 11] (fun pv bv wc => GotV w5 p1 v1 zs1 (.int .i64 (n1 : Int)) pv bv wc)
    case first =>
      go_region_held3 (fun w' => w'.cell? ⟨bd, 0, none⟩ = some (.int .i64 m) ∧ w'.cell? ⟨bd, 1, none⟩ = some (.string (bs s)) ∧ w'.cell? ⟨bd, 2, none⟩ = some (.slice a xs.length c) ∧ w5.grownBy w' none) (first | exact KS.out _ (grownBy_drew (grownBy_refl _ none)) | exact KS.out _ (grownBy_trans (lastS4 (by assumption)) gd) | exact KS.out _ (grownBy_trans (lastS4 (by assumption)) (World.grownBy_alloc _ _ none)) | exact KS.out _ (grownBy_trans G9.out (World.grownBy_alloc _ _ none)) | exact KS.out _ (put3_grown _ G9.out (by exact Nat.le_refl _) _ _ _) | exact KS.out _ (put3_grown _ (grownBy_trans G9.out (World.grownBy_alloc _ _ none)) G9.out.size _ _ _)) (first | (go_at_call 30; (with_reducible refine (c4 _ (grownBy_trans G5.out (lastS4 (by assumption)))).mono ?_); rintro e wd ⟨a3, c3, rfl, o3, z3, gd⟩; have G9 := Lib.hid (grownBy_trans (lastS4 (by assumption)) gd); have OW := Lib.hid (o3.mono (base' := w5.heap.size) (sizeS4 (by assumption))); have HN := Lib.hid (CellsAt.new wd #[.int .i64 0, .string ⟨#[]⟩, .slice none 0 0] 31); obtain ⟨⟨m0, m1, m2⟩, m3, m4, m5⟩ := dk_facts HN.out; have nl := HN.out.lt; (first | (with_reducible have HZ := Lib.hid (zero_1 (drew_grown gd)); obtain ⟨⟨q0, q1, q2⟩, j0, j1, j2⟩ := dk_facts HZ.out; have zl := HZ.out.lt) | (with_reducible have HZ := Lib.hid (zero_1 gd); obtain ⟨⟨q0, q1, q2⟩, j0, j1, j2⟩ := dk_facts HZ.out; have zl := HZ.out.lt) | skip)))
      all_goals go_wp2_with fail
      all_goals go_meet
      all_goals first | with_reducible exact gotV_new OW.out z3 (Nat.le_refl _) G9.out | with_reducible exact gotV_old (OW.out.kept (World.grownBy_alloc _ _ none)) z3 (Nat.le_refl _) (grownBy_trans G9.out (World.grownBy_alloc _ _ none)) HN.out G9.out.size | with_reducible exact gotV_old OW.out z3 (Nat.le_refl _) G9.out HZ.out (Nat.le_refl _) | (trace_state; fail)
    case rest =>
      obtain ⟨wA, rfl⟩ : ∃ x, x = wc := ⟨wc, rfl⟩
      obtain ⟨bA, a3, c3, rfl, rfl, hA1, hC, o3, z3, hg3⟩ := hcut
      have HA3 := Lib.hid hC
      have HO3 := Lib.hid o3
      have G6 := Lib.hid (grownBy_trans G5.out hg3)
      have HB6 := Lib.hid (HB5.out.grown hg3)
      have L6 := Lib.hid (L5.out.grown hg3)
      have lbA := hC.lt
      have lbd' := (HA.out.grown G6.out).lt
      clear hC o3 hg3 HB5 L5 KS c4
      have KS : Hid (∀ w', wA.grownBy w' none → w'.cell? ⟨bA, 0, none⟩ = some (.int .i64 p1) ∧ w'.cell? ⟨bA, 1, none⟩ = some (.string (bs v1)) ∧ w'.cell? ⟨bA, 2, none⟩ = some (.slice a3 zs1.length c3) ∧ wA.grownBy w' none) := fun w' g => ⟨(HA3.out.grown g).three.1, (HA3.out.grown g).three.2.1, (HA3.out.grown g).three.2.2, g⟩
      have c5 : ∀ w, wA.grownBy w none → Calls Try.prog 30 #[.agg #[.int .i64 p1, .string (bs v1), .slice a3 zs1.length c3], .slice (some ⟨g, H * 3, none⟩) (l.length - H) (capb - H)] w fun e w' => ∃ a' cap', e = .returned (.tuple #[.agg #[.int .i64 p, .string (bs u), .slice a' ys.length cap'], .int .i64 (n2 : Int)]) ∧ OwnL w' w.heap.size a' ys ∧ (a' = none → cap' = 0) ∧ w.grownBy w' none := fun w hg => by
        have hd2 := HL.out.drop H
        rw [Nat.zero_add] at hd2
        have := irun_any ((p1, v1), zs1) (l.drop H) a3 (some ⟨g, H * 3, none⟩) c3 (capb - H) w (HO3.out.at.grown hg) z3 (hd2.grown (grownBy_trans G6.out hg)) (fun x hx => HT.out x (List.mem_of_mem_drop hx))
        rw [← hR2, hld] at this
        exact this
      have HLD := Lib.hid hld
      have HLT := Lib.hid hlt
      clear hR1 hR2 hld hlt hR
      by_cases hce : capb = H
      · obtain ⟨rfl, rfl⟩ : H = 0 ∧ capb = 0 := by have := HH.out; omega
        obtain rfl : l = [] := List.length_eq_zero_iff.1 (by have := HH.out; omega)
        simp only [List.length_nil, Nat.zero_mul, Nat.sub_zero] at c5
        clear hce
        go_wp2_with fail
        go_cut [12, 13] (fun pv bv wd => GotV wA p u ys (.int .i64 (n2 : Int)) pv bv wd)
        case first =>
          go_region_held3 (fun w' => w'.cell? ⟨bA, 0, none⟩ = some (.int .i64 p1) ∧ w'.cell? ⟨bA, 1, none⟩ = some (.string (bs v1)) ∧ w'.cell? ⟨bA, 2, none⟩ = some (.slice a3 zs1.length c3) ∧ wA.grownBy w' none) (first | exact KS.out _ (grownBy_drew (grownBy_refl _ none)) | exact KS.out _ (grownBy_trans (lastS4 (by assumption)) gd) | exact KS.out _ (grownBy_trans (lastS4 (by assumption)) (World.grownBy_alloc _ _ none)) | exact KS.out _ (grownBy_trans G9.out (World.grownBy_alloc _ _ none)) | exact KS.out _ (put3_grown _ G9.out (by exact Nat.le_refl _) _ _ _) | exact KS.out _ (put3_grown _ (grownBy_trans G9.out (World.grownBy_alloc _ _ none)) G9.out.size _ _ _)) (first | (go_at_call 30; (with_reducible refine (c5 _ (lastS4 (by assumption))).mono ?_); rintro e wd ⟨a4, c4, rfl, o4, z4, gd⟩; have G9 := Lib.hid (grownBy_trans (lastS4 (by assumption)) gd); have OW := Lib.hid (o4.mono (base' := wA.heap.size) (sizeS4 (by assumption))); have HN := Lib.hid (CellsAt.new wd #[.int .i64 0, .string ⟨#[]⟩, .slice none 0 0] 31); obtain ⟨⟨m0, m1, m2⟩, m3, m4, m5⟩ := dk_facts HN.out; have nl := HN.out.lt; (first | (with_reducible have HZ := Lib.hid (zero_1 (drew_grown gd)); obtain ⟨⟨q0, q1, q2⟩, j0, j1, j2⟩ := dk_facts HZ.out; have zl := HZ.out.lt) | (with_reducible have HZ := Lib.hid (zero_1 gd); obtain ⟨⟨q0, q1, q2⟩, j0, j1, j2⟩ := dk_facts HZ.out; have zl := HZ.out.lt) | skip)))
          all_goals go_wp2_with fail
          all_goals go_meet
          all_goals first | with_reducible exact gotV_new OW.out z4 (Nat.le_refl _) G9.out | with_reducible exact gotV_old (OW.out.kept (World.grownBy_alloc _ _ none)) z4 (Nat.le_refl _) (grownBy_trans G9.out (World.grownBy_alloc _ _ none)) HN.out G9.out.size | with_reducible exact gotV_old OW.out z4 (Nat.le_refl _) G9.out HZ.out (Nat.le_refl _) | (trace_state; fail)
        case rest =>
          obtain ⟨bC, a4, c4, rfl, rfl, hA2, hC, o4, z4, hg4⟩ := hcut
          have HC := Lib.hid hC
          have L7 := Lib.hid (L6.out.grown hg4)
          have G7 := Lib.hid (grownBy_trans G6.out hg4)
          have HB7 := Lib.hid (HB6.out.grown hg4)
          have O7 := Lib.hid o4.at
          obtain ⟨x0, x1, x2⟩ := HB7.out.three
          have hw : wrap64 ((n1 : Int) + (n2 : Int)) = (n1 : Int) + (n2 : Int) := by unfold wrap64; omega
          have hsum : ((n1 : Int) + (n2 : Int)) = (n : Int) := by omega
          have hsb : ((n1 : Int) + (n2 : Int) == (n : Int)) = true := by rw [hsum]; simp
          have cX : ∀ w, wc.grownBy w none → Calls Try.prog 18 #[.agg #[.int .i64 p, .string (bs u), .slice a1 ys.length k1]] w fun e w' => e = .returned (.bool true) ∧ w.grownBy w' none := fun w hg => by
            have := idesk_any ((p, u), ys) a1 k1 w (L7.out.grown hg)
            rw [hok] at this
            exact this
          have cS : ∀ w, wc.grownBy w none → Calls Try.prog 23 #[.agg #[.int .i64 p, .string (bs u), .slice a4 ys.length c4], .agg #[.int .i64 p, .string (bs u), .slice a1 ys.length k1]] w fun e w' => e = .returned (.bool true) ∧ w.grownBy w' none := fun w hg => by
            have := dksame_any ((p, u), ys) ((p, u), ys) a4 a1 c4 k1 w (O7.out.grown hg) (L7.out.grown hg)
            rw [sameK_self] at this
            exact this
          have hn40 : n1 ≤ 40 ∧ n2 ≤ 40 := ⟨hn1, hn2⟩
          clear hC o4 hg4 hsum hn12 hn1 hn2 HO3 HA3 KS c5
          go_wp2_with (first | (go_at_call 18; (with_reducible refine (cX _ (grownBy_refl _ _)).mono ?_); rintro e w8 ⟨rfl, g8⟩; have G8 := Lib.hid g8; obtain ⟨x0, x1, x2⟩ := (HB7.out.grown g8).three; obtain ⟨y0, y1, y2⟩ := (HC.out.grown g8).three; clear g8 cX) | (go_at_call 23; (with_reducible refine (cS _ G8.out).mono ?_); rintro e w9 ⟨rfl, g9⟩; have G9 := Lib.hid (grownBy_trans G8.out g9)))
          go_ret
          exact ⟨rfl, below_of (grownBy_trans G1.out (grownBy_trans G7.out G9.out))⟩
      · have hce2 : ¬ (H = capb) := fun q => hce q.symm
        go_wp2_with fail
        go_cut [12, 13] (fun pv bv wd => GotV wA p u ys (.int .i64 (n2 : Int)) pv bv wd)
        case first =>
          go_region_held3 (fun w' => w'.cell? ⟨bA, 0, none⟩ = some (.int .i64 p1) ∧ w'.cell? ⟨bA, 1, none⟩ = some (.string (bs v1)) ∧ w'.cell? ⟨bA, 2, none⟩ = some (.slice a3 zs1.length c3) ∧ wA.grownBy w' none) (first | exact KS.out _ (grownBy_drew (grownBy_refl _ none)) | exact KS.out _ (grownBy_trans (lastS4 (by assumption)) gd) | exact KS.out _ (grownBy_trans (lastS4 (by assumption)) (World.grownBy_alloc _ _ none)) | exact KS.out _ (grownBy_trans G9.out (World.grownBy_alloc _ _ none)) | exact KS.out _ (put3_grown _ G9.out (by exact Nat.le_refl _) _ _ _) | exact KS.out _ (put3_grown _ (grownBy_trans G9.out (World.grownBy_alloc _ _ none)) G9.out.size _ _ _)) (first | (go_at_call 30; (with_reducible refine (c5 _ (lastS4 (by assumption))).mono ?_); rintro e wd ⟨a4, c4, rfl, o4, z4, gd⟩; have G9 := Lib.hid (grownBy_trans (lastS4 (by assumption)) gd); have OW := Lib.hid (o4.mono (base' := wA.heap.size) (sizeS4 (by assumption))); have HN := Lib.hid (CellsAt.new wd #[.int .i64 0, .string ⟨#[]⟩, .slice none 0 0] 31); obtain ⟨⟨m0, m1, m2⟩, m3, m4, m5⟩ := dk_facts HN.out; have nl := HN.out.lt; (first | (with_reducible have HZ := Lib.hid (zero_1 (drew_grown gd)); obtain ⟨⟨q0, q1, q2⟩, j0, j1, j2⟩ := dk_facts HZ.out; have zl := HZ.out.lt) | (with_reducible have HZ := Lib.hid (zero_1 gd); obtain ⟨⟨q0, q1, q2⟩, j0, j1, j2⟩ := dk_facts HZ.out; have zl := HZ.out.lt) | skip)))
          all_goals go_wp2_with fail
          all_goals go_meet
          all_goals first | with_reducible exact gotV_new OW.out z4 (Nat.le_refl _) G9.out | with_reducible exact gotV_old (OW.out.kept (World.grownBy_alloc _ _ none)) z4 (Nat.le_refl _) (grownBy_trans G9.out (World.grownBy_alloc _ _ none)) HN.out G9.out.size | with_reducible exact gotV_old OW.out z4 (Nat.le_refl _) G9.out HZ.out (Nat.le_refl _) | (trace_state; fail)
        case rest =>
          obtain ⟨bC, a4, c4, rfl, rfl, hA2, hC, o4, z4, hg4⟩ := hcut
          have HC := Lib.hid hC
          have L7 := Lib.hid (L6.out.grown hg4)
          have G7 := Lib.hid (grownBy_trans G6.out hg4)
          have HB7 := Lib.hid (HB6.out.grown hg4)
          have O7 := Lib.hid o4.at
          obtain ⟨x0, x1, x2⟩ := HB7.out.three
          have hw : wrap64 ((n1 : Int) + (n2 : Int)) = (n1 : Int) + (n2 : Int) := by unfold wrap64; omega
          have hsum : ((n1 : Int) + (n2 : Int)) = (n : Int) := by omega
          have hsb : ((n1 : Int) + (n2 : Int) == (n : Int)) = true := by rw [hsum]; simp
          have cX : ∀ w, wc.grownBy w none → Calls Try.prog 18 #[.agg #[.int .i64 p, .string (bs u), .slice a1 ys.length k1]] w fun e w' => e = .returned (.bool true) ∧ w.grownBy w' none := fun w hg => by
            have := idesk_any ((p, u), ys) a1 k1 w (L7.out.grown hg)
            rw [hok] at this
            exact this
          have cS : ∀ w, wc.grownBy w none → Calls Try.prog 23 #[.agg #[.int .i64 p, .string (bs u), .slice a4 ys.length c4], .agg #[.int .i64 p, .string (bs u), .slice a1 ys.length k1]] w fun e w' => e = .returned (.bool true) ∧ w.grownBy w' none := fun w hg => by
            have := dksame_any ((p, u), ys) ((p, u), ys) a4 a1 c4 k1 w (O7.out.grown hg) (L7.out.grown hg)
            rw [sameK_self] at this
            exact this
          have hn40 : n1 ≤ 40 ∧ n2 ≤ 40 := ⟨hn1, hn2⟩
          clear hC o4 hg4 hsum hn12 hn1 hn2 HO3 HA3 KS c5
          go_wp2_with (first | (go_at_call 18; (with_reducible refine (cX _ (grownBy_refl _ _)).mono ?_); rintro e w8 ⟨rfl, g8⟩; have G8 := Lib.hid g8; obtain ⟨x0, x1, x2⟩ := (HB7.out.grown g8).three; obtain ⟨y0, y1, y2⟩ := (HC.out.grown g8).three; clear g8 cX) | (go_at_call 23; (with_reducible refine (cS _ G8.out).mono ?_); rintro e w9 ⟨rfl, g9⟩; have G9 := Lib.hid (grownBy_trans G8.out g9)))
          go_ret
          exact ⟨rfl, below_of (grownBy_trans G1.out (grownBy_trans G7.out G9.out))⟩

end Go.Proofs.Ytnkebgkocpeonaa
