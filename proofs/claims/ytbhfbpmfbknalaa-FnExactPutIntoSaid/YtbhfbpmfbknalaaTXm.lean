/-
  For the exact law of PutInto: marks of longer rows, and what lies where.
-/
import Derived.Test.YtbhfbpmfbknalaaTXl
import Derived.Test.YtbhfbpmfbknalaaTL3
namespace Go.Proofs.Ytbhfbpmfbknalaa
open Go.RowKit

theorem markIntB_any (k : Int) (hk : 0 ≤ k ∧ k ≤ 100000000) (base : Nat) (a : Option Addr) (cap : Nat) (zs : List Int) (hz : zs.length ≤ 100000000) (w : World) (ho : OwnI w base a cap zs) :
    Calls Try.prog 64 #[.slice a zs.length cap, .int .i64 k] w (MarkPost k base a cap zs w) := by
  unfold OwnI at ho
  rcases ho.2 with ⟨h1, h0⟩ | ⟨g, c, cur, h1, hb, hg, h2⟩
  · simp only [Value.slice.injEq] at h1
    obtain ⟨rfl, h3, rfl⟩ := h1
    rw [h0] at ho
    have hp : Hid (MarkPost k base none 0 zs w (.returned (.int .i64 k)) w) := by
      unfold Hid MarkPost
      rw [h0]
      exact ⟨by simp, ⟨by simp [marks], .inl ⟨rfl, rfl⟩⟩, grownBy_refl _ _⟩
    rw [h3]
    clear ho h0 h3
    go_enter Try.func64, Try.ntmps64
    go_wp2
    go_loopw [1, 5] (fun kv i wr => kv = .int .i64 k ∧ i = .int .i64 0 ∧ w = wr) (fun _ _ _ => 0)
    case atStart => exact ⟨rfl, rfl, rfl⟩
    case round =>
      obtain ⟨rfl, rfl, rfl⟩ := hrel
      go_wp2
      go_ret
      exact hp.out
  · simp only [Value.slice.injEq, true_and] at h1
    obtain ⟨rfl, rfl⟩ := h1
    have Ho := Lib.hid ho
    clear ho hg h2
    go_enter Try.func64, Try.ntmps64
    go_wp2
    go_loopw [1, 5] (fun kv i wr => MarkRel k base g cap zs w kv i wr) (fun _ i _ => zs.length - (intOf i).toNat)
    case atStart => exact ⟨0, by omega, rfl, by simp, by rw [marked_0]; exact Ho.out, grownBy_refl _ _⟩
    case round =>
      obtain ⟨j, hj, rfl, rfl, hown, hgr⟩ := hrel
      by_cases hlt : j < zs.length
      · have hfr := World.ownsRow.frozenAt hown j
        have hce := World.ownsRow.cellAt hown j (by omega)
        rw [List.getElem?_eq_getElem (by rw [List.length_map, marked_len _ _ _ hj]; exact hlt)] at hce
        obtain ⟨u, hce⟩ : ∃ u, wr.cell? ⟨g, j, none⟩ = some u := ⟨_, hce⟩
        have hst := Lib.hid (mark_step hlt hown hgr)
        clear hown hgr
        go_wp2
        go_roundw
        case rel => exact ⟨j + 1, by omega, by go_num, by refine congrArg (Value.int .i64) ?_; omega, hst.out.1, hst.out.2⟩
        case measure => simp [intOf]; omega
      · obtain rfl : j = zs.length := by omega
        rw [marked_all] at hown
        have hp : Hid (MarkPost k base (some ⟨g, 0, none⟩) cap zs w (.returned (.int .i64 (k + zs.length))) wr) := ⟨rfl, hown, hgr⟩
        clear hown hgr
        go_wp2
        go_ret
        exact hp.out

theorem markB_any (k : Int) (hk : 0 ≤ k ∧ k ≤ 100000000) (base : Nat) (a : Option Addr) (cap : Nat) (zs : List Int) (hz : zs.length ≤ 100000000) (w : World) (ho : OwnI w base a cap zs) :
    Calls Try.prog 39 #[.agg #[.slice a zs.length cap], .int .i64 k] w (MarkPost k base a cap zs w) := by
  have g1 : w.grownBy (w.alloc (.cells #[.slice a zs.length cap] 25)) none := World.grownBy_alloc _ _ none
  have c1 := markIntB_any k hk base a cap zs hz _ (ho.kept g1)
  clear ho g1
  go_enter Try.func39, Try.ntmps39
  go_wp2_with fail
  refine c1.mono ?_
  rintro e w2 ⟨rfl, ho, g3⟩
  have HO := Lib.hid ho
  have HG := Lib.hid (grow_box g3)
  clear c1 ho g3
  go_wp2_with fail
  go_ret
  exact ⟨rfl, HO.out, HG.out⟩

theorem own_q {b : Option Addr} {n c k : Nat} (e : (Value.slice b n c).ownBlock = some k) : ∃ q, b = some q ∧ q.block = k := by
  cases b with
  | none => simp [Value.ownBlock] at e
  | some q => exact ⟨q, rfl, by simpa [Value.ownBlock] using e⟩

structure PBd (v0 : World) (s4 B8 B9 B10 B11 B12 : Nat) (e b0 b1 b2 g : Option Addr) : Prop where
  h8 : B8 < s4
  h9 : s4 ≤ B9
  h10 : B9 < B10
  h11 : B10 < B11
  h12 : B11 < B12
  he : ∀ q, e = some q → q.block < s4
  h0 : ∀ q, b0 = some q → s4 ≤ q.block ∧ q.block < B9
  h1 : ∀ q, b1 = some q → B9 < q.block ∧ q.block < B10
  h2 : ∀ q, b2 = some q → B10 < q.block ∧ q.block < B11
  h3 : ∀ q, g = some q → B11 < q.block ∧ q.block < B12
  hv : v0.heap.size ≤ s4

structure PSt (v0 : World) (s4 B8 B9 B10 B11 B12 : Nat) (e b0 b1 b2 g : Option Addr) (ce c0 c1 c2 cg : Nat) (lo0 lo1 lo2 lo3 : Nat) (rs xs ys zs : List Int) (x' y' z' g' : List Int) (wc : World) : Prop where
  t8 : T1 wc B8 (.slice e rs.length ce)
  t9 : T1 wc B9 (.slice b0 xs.length c0)
  t10 : T1 wc B10 (.slice b1 ys.length c1)
  t11 : T1 wc B11 (.slice b2 zs.length c2)
  t12 : T1 wc B12 (.slice g rs.length cg)
  ir : IntsAt wc e rs
  o0 : OwnI wc lo0 b0 c0 x'
  o1 : OwnI wc lo1 b1 c1 y'
  o2 : OwnI wc lo2 b2 c2 z'
  o3 : OwnI wc lo3 g cg g'
  gr : v0.grownBy wc none

section
variable {v0 : World} {s4 B8 B9 B10 B11 B12 : Nat} {e b0 b1 b2 g : Option Addr} {ce c0 c1 c2 cg : Nat} {lo0 lo1 lo2 lo3 : Nat} {rs xs ys zs x' y' z' g' : List Int} {wc wd : World}
theorem PSt.grown (h : PSt v0 s4 B8 B9 B10 B11 B12 e b0 b1 b2 g ce c0 c1 c2 cg lo0 lo1 lo2 lo3 rs xs ys zs x' y' z' g' wc) (k : wc.grownBy wd none) : PSt v0 s4 B8 B9 B10 B11 B12 e b0 b1 b2 g ce c0 c1 c2 cg lo0 lo1 lo2 lo3 rs xs ys zs x' y' z' g' wd :=
  ⟨h.t8.grown k, h.t9.grown k, h.t10.grown k, h.t11.grown k, h.t12.grown k, h.ir.grown k, h.o0.kept k, h.o1.kept k, h.o2.kept k, h.o3.kept k, grownBy_trans h.gr k⟩
theorem PSt.mark0 (h : PSt v0 s4 B8 B9 B10 B11 B12 e b0 b1 b2 g ce c0 c1 c2 cg lo0 lo1 lo2 lo3 rs xs ys zs x' y' z' g' wc) (bd : PBd v0 s4 B8 B9 B10 B11 B12 e b0 b1 b2 g) {n c : Nat} {n' : List Int} (hm : wc.grownBy wd (Value.slice b0 n c).ownBlock) (ho : OwnI wd lo0 b0 c0 n') : PSt v0 s4 B8 B9 B10 B11 B12 e b0 b1 b2 g ce c0 c1 c2 cg lo0 lo1 lo2 lo3 rs xs ys zs n' y' z' g' wd := by
  have k8 := bd.h8
  have k9 := bd.h9
  have k10 := bd.h10
  have k11 := bd.h11
  have k12 := bd.h12
  have kv := bd.hv
  cases hbb : b0 with
  | none =>
    rw [hbb] at hm
    have hm' : wc.grownBy wd none := hm
    rw [← hbb]
    exact { h.grown hm' with o0 := ho }
  | some q =>
    rw [hbb] at hm
    have hm' : wc.grownBy wd (some q.block) := hm
    rw [← hbb]
    have kq := bd.h0 q hbb
    exact ⟨h.t8.kept hm' (by simp; omega), h.t9.kept hm' (by simp; omega), h.t10.kept hm' (by simp; omega), h.t11.kept hm' (by simp; omega), h.t12.kept hm' (by simp; omega),
      h.ir.kept hm' (fun x hx => by have := bd.he x hx; simp; omega), ho,
      World.ownsRow.kept h.o1 hm' (.inr fun ee => by
      obtain ⟨q', e1, e2⟩ := own_q ee
      have := bd.h1 q' e1
      omega),
      World.ownsRow.kept h.o2 hm' (.inr fun ee => by
      obtain ⟨q', e1, e2⟩ := own_q ee
      have := bd.h2 q' e1
      omega),
      World.ownsRow.kept h.o3 hm' (.inr fun ee => by
      obtain ⟨q', e1, e2⟩ := own_q ee
      have := bd.h3 q' e1
      omega), grow_at h.gr hm' (by omega)⟩
theorem PSt.mark1 (h : PSt v0 s4 B8 B9 B10 B11 B12 e b0 b1 b2 g ce c0 c1 c2 cg lo0 lo1 lo2 lo3 rs xs ys zs x' y' z' g' wc) (bd : PBd v0 s4 B8 B9 B10 B11 B12 e b0 b1 b2 g) {n c : Nat} {n' : List Int} (hm : wc.grownBy wd (Value.slice b1 n c).ownBlock) (ho : OwnI wd lo1 b1 c1 n') : PSt v0 s4 B8 B9 B10 B11 B12 e b0 b1 b2 g ce c0 c1 c2 cg lo0 lo1 lo2 lo3 rs xs ys zs x' n' z' g' wd := by
  have k8 := bd.h8
  have k9 := bd.h9
  have k10 := bd.h10
  have k11 := bd.h11
  have k12 := bd.h12
  have kv := bd.hv
  cases hbb : b1 with
  | none =>
    rw [hbb] at hm
    have hm' : wc.grownBy wd none := hm
    rw [← hbb]
    exact { h.grown hm' with o1 := ho }
  | some q =>
    rw [hbb] at hm
    have hm' : wc.grownBy wd (some q.block) := hm
    rw [← hbb]
    have kq := bd.h1 q hbb
    exact ⟨h.t8.kept hm' (by simp; omega), h.t9.kept hm' (by simp; omega), h.t10.kept hm' (by simp; omega), h.t11.kept hm' (by simp; omega), h.t12.kept hm' (by simp; omega),
      h.ir.kept hm' (fun x hx => by have := bd.he x hx; simp; omega), World.ownsRow.kept h.o0 hm' (.inr fun ee => by
      obtain ⟨q', e1, e2⟩ := own_q ee
      have := bd.h0 q' e1
      omega),
      ho,
      World.ownsRow.kept h.o2 hm' (.inr fun ee => by
      obtain ⟨q', e1, e2⟩ := own_q ee
      have := bd.h2 q' e1
      omega),
      World.ownsRow.kept h.o3 hm' (.inr fun ee => by
      obtain ⟨q', e1, e2⟩ := own_q ee
      have := bd.h3 q' e1
      omega), grow_at h.gr hm' (by omega)⟩
theorem PSt.mark2 (h : PSt v0 s4 B8 B9 B10 B11 B12 e b0 b1 b2 g ce c0 c1 c2 cg lo0 lo1 lo2 lo3 rs xs ys zs x' y' z' g' wc) (bd : PBd v0 s4 B8 B9 B10 B11 B12 e b0 b1 b2 g) {n c : Nat} {n' : List Int} (hm : wc.grownBy wd (Value.slice b2 n c).ownBlock) (ho : OwnI wd lo2 b2 c2 n') : PSt v0 s4 B8 B9 B10 B11 B12 e b0 b1 b2 g ce c0 c1 c2 cg lo0 lo1 lo2 lo3 rs xs ys zs x' y' n' g' wd := by
  have k8 := bd.h8
  have k9 := bd.h9
  have k10 := bd.h10
  have k11 := bd.h11
  have k12 := bd.h12
  have kv := bd.hv
  cases hbb : b2 with
  | none =>
    rw [hbb] at hm
    have hm' : wc.grownBy wd none := hm
    rw [← hbb]
    exact { h.grown hm' with o2 := ho }
  | some q =>
    rw [hbb] at hm
    have hm' : wc.grownBy wd (some q.block) := hm
    rw [← hbb]
    have kq := bd.h2 q hbb
    exact ⟨h.t8.kept hm' (by simp; omega), h.t9.kept hm' (by simp; omega), h.t10.kept hm' (by simp; omega), h.t11.kept hm' (by simp; omega), h.t12.kept hm' (by simp; omega),
      h.ir.kept hm' (fun x hx => by have := bd.he x hx; simp; omega), World.ownsRow.kept h.o0 hm' (.inr fun ee => by
      obtain ⟨q', e1, e2⟩ := own_q ee
      have := bd.h0 q' e1
      omega),
      World.ownsRow.kept h.o1 hm' (.inr fun ee => by
      obtain ⟨q', e1, e2⟩ := own_q ee
      have := bd.h1 q' e1
      omega),
      ho,
      World.ownsRow.kept h.o3 hm' (.inr fun ee => by
      obtain ⟨q', e1, e2⟩ := own_q ee
      have := bd.h3 q' e1
      omega), grow_at h.gr hm' (by omega)⟩
theorem PSt.mark3 (h : PSt v0 s4 B8 B9 B10 B11 B12 e b0 b1 b2 g ce c0 c1 c2 cg lo0 lo1 lo2 lo3 rs xs ys zs x' y' z' g' wc) (bd : PBd v0 s4 B8 B9 B10 B11 B12 e b0 b1 b2 g) {n c : Nat} {n' : List Int} (hm : wc.grownBy wd (Value.slice g n c).ownBlock) (ho : OwnI wd lo3 g cg n') : PSt v0 s4 B8 B9 B10 B11 B12 e b0 b1 b2 g ce c0 c1 c2 cg lo0 lo1 lo2 lo3 rs xs ys zs x' y' z' n' wd := by
  have k8 := bd.h8
  have k9 := bd.h9
  have k10 := bd.h10
  have k11 := bd.h11
  have k12 := bd.h12
  have kv := bd.hv
  cases hbb : g with
  | none =>
    rw [hbb] at hm
    have hm' : wc.grownBy wd none := hm
    rw [← hbb]
    exact { h.grown hm' with o3 := ho }
  | some q =>
    rw [hbb] at hm
    have hm' : wc.grownBy wd (some q.block) := hm
    rw [← hbb]
    have kq := bd.h3 q hbb
    exact ⟨h.t8.kept hm' (by simp; omega), h.t9.kept hm' (by simp; omega), h.t10.kept hm' (by simp; omega), h.t11.kept hm' (by simp; omega), h.t12.kept hm' (by simp; omega),
      h.ir.kept hm' (fun x hx => by have := bd.he x hx; simp; omega), World.ownsRow.kept h.o0 hm' (.inr fun ee => by
      obtain ⟨q', e1, e2⟩ := own_q ee
      have := bd.h0 q' e1
      omega),
      World.ownsRow.kept h.o1 hm' (.inr fun ee => by
      obtain ⟨q', e1, e2⟩ := own_q ee
      have := bd.h1 q' e1
      omega),
      World.ownsRow.kept h.o2 hm' (.inr fun ee => by
      obtain ⟨q', e1, e2⟩ := own_q ee
      have := bd.h2 q' e1
      omega),
      ho, grow_at h.gr hm' (by omega)⟩
end

/-- The cut behind a region that lays a table of its own. -/
def CutR (rs : List Int) (v0 : World) (s : Value) (wc : World) : Prop := ∃ B e ce, s = .pointer (some ⟨B, 0, none⟩) ∧ T1 wc B (.slice e rs.length ce) ∧ OwnI wc v0.heap.size e ce rs ∧ v0.grownBy wc none
theorem put_fin {v0 we : World} {B8 base : Nat} {rs : List Int} {e : Option Addr} {ce : Nat} {s : Value} (hT : T1 we B8 s) (hO : OwnI we base e ce rs) (hne : ∀ g, (Value.slice e rs.length ce).ownBlock = some g → g ≠ B8) (hv : v0.heap.size ≤ base) (hB : v0.heap.size ≤ B8) (hg : v0.grownBy we none) :
    CutR rs v0 (.pointer (some ⟨B8, 0, none⟩)) (we.setCell ⟨B8, 0, none⟩ (.slice e rs.length ce)) :=
  ⟨B8, e, ce, rfl, hT.set, own_lower (World.ownsRow.kept hO (grownBy_set we B8 0 _) (.inr fun ee => hne _ ee rfl)) hv, grow_at hg (grownBy_set we B8 0 _) hB⟩
theorem held_3x {w0 w1 w2 : World} {a b c : Addr} {x y z : Value} (h : w1.cell? a = some x ∧ w1.cell? b = some y ∧ w1.cell? c = some z ∧ w0.grownBy w1 none) (g : w1.grownBy w2 none) : w2.cell? a = some x ∧ w2.cell? b = some y ∧ w2.cell? c = some z ∧ w0.grownBy w2 none :=
  ⟨g.cell h.1 (by simp), g.cell h.2.1 (by simp), g.cell h.2.2.1 (by simp), grownBy_trans h.2.2.2 g⟩
theorem held_2x {w0 w1 w2 : World} {a b : Addr} {x y : Value} (h : w1.cell? a = some x ∧ w1.cell? b = some y ∧ w0.grownBy w1 none) (g : w1.grownBy w2 none) : w2.cell? a = some x ∧ w2.cell? b = some y ∧ w0.grownBy w2 none :=
  ⟨g.cell h.1 (by simp), g.cell h.2.1 (by simp), grownBy_trans h.2.2 g⟩
theorem held_set {v0 w1 : World} {a b c : Addr} {x y z v : Value} {B8 : Nat} (h : w1.cell? a = some x ∧ w1.cell? b = some y ∧ w1.cell? c = some z ∧ v0.grownBy w1 none) (hv : v0.heap.size ≤ B8) (ha : a.block < v0.heap.size) (hb : b.block < v0.heap.size) (hc : c.block < v0.heap.size) :
    (w1.setCell ⟨B8, 0, none⟩ v).cell? a = some x ∧ (w1.setCell ⟨B8, 0, none⟩ v).cell? b = some y ∧ (w1.setCell ⟨B8, 0, none⟩ v).cell? c = some z ∧ v0.grownBy (w1.setCell ⟨B8, 0, none⟩ v) none := by
  have k := grownBy_set w1 B8 0 v
  exact ⟨k.cell h.1 (by simp; omega), k.cell h.2.1 (by simp; omega), k.cell h.2.2.1 (by simp; omega), grow_at h.2.2.2 k hv⟩

end Go.Proofs.Ytbhfbpmfbknalaa
