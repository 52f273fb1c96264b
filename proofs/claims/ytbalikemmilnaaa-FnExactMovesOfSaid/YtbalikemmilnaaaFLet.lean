/-
  impl.LettersIn: the methods by which a tree counts its letters, by induction on the tree. No condition.
-/
import Derived.Test.YtbalikemmilnaaaFCell
namespace Go.Proofs.Ytbalikemmilnaaa
open Go.RowKit Go.Maps Go.Joins

def lsFn : Tr → FuncId
  | .lt _ => 104
  | .tru _ => 106
  | .neg _ => 108
  | .bin _ _ _ => 110

theorem ls_meth (t : Tr) (F : Nat) (w : World) : (method (F + 1) (nodeT t) (nodeP t) "loop.example/manyvalues/impl.letters").run Try.prog w = .ok (lsFn t, nodeP t) w := by
  cases t <;> kernel_rfl

theorem ls_nil (t : Tr) (F : Nat) (w : World) : (nilAhead (F + 1) (nodeT t) (nodeP t) "loop.example/manyvalues/impl.letters").run Try.prog w = .ok (some false) w := by
  cases t <;> kernel_rfl

theorem ls_enter (t : Tr) (args : Array Value) (w : World) : (callFunc (lsFn t) args).run Try.prog w = .ok (.enter (lsFn t) args) w := by
  cases t <;> kernel_rfl

def LsOk (t : Tr) : Prop := ∀ w : World, Calls Try.prog (lsFn t) #[nodeP t] w fun e w' => e = .returned (.int .i64 (t.ls : Int)) ∧ w.grownBy w' none

theorem ls_neg {x : Tr} (ih : LsOk x) : LsOk (.neg x) := by
  intro w
  have hm := ls_meth x
  have he := ls_enter x
  show Calls Try.prog 108 #[.agg #[.iface (nodeT x) (nodeP x)]] w _
  go_enter Try.func108, Try.ntmps108
  go_wp2_with fail
  refine (ih _).mono ?_
  rintro e w1 ⟨rfl, g1⟩
  go_wp2_with fail
  go_ret
  exact ⟨rfl, grownBy_trans (World.grownBy_alloc _ _ _) g1⟩

set_option maxHeartbeats 2000000 in
theorem ls_bin {g : Sg} {x y : Tr} (ihx : LsOk x) (ihy : LsOk y) (hx : x.ls ≤ 60) (hy : y.ls ≤ 60) : LsOk (.bin g x y) := by
  intro w
  have hm := ls_meth x
  have hm2 := ls_meth y
  have he := ls_enter x
  have he2 := ls_enter y
  have hn := ls_nil x
  have hn2 := ls_nil y
  have hw : IntKind.i64.wrap ((x.ls : Int) + (y.ls : Int)) = (x.ls : Int) + (y.ls : Int) := IntWalk.i64_in _ (by omega)
  show Calls Try.prog 110 #[.agg #[.string ⟨#[g.byte]⟩, .func (.func g.fn) #[] #[], .iface (nodeT x) (nodeP x), .iface (nodeT y) (nodeP y)]] w _
  go_enter Try.func110, Try.ntmps110
  go_wp2_with fail
  have hb : (w.alloc (.cells #[.string ⟨#[g.byte]⟩, .func (.func g.fn) #[] #[], .iface (nodeT x) (nodeP x), .iface (nodeT y) (nodeP y)] 86)).drew.cell? ⟨w.heap.size, 2, none⟩ = some (.iface (nodeT x) (nodeP x)) ∧
    (w.alloc (.cells #[.string ⟨#[g.byte]⟩, .func (.func g.fn) #[] #[], .iface (nodeT x) (nodeP x), .iface (nodeT y) (nodeP y)] 86)).drew.cell? ⟨w.heap.size, 3, none⟩ = some (.iface (nodeT y) (nodeP y)) ∧
    w.grownBy (w.alloc (.cells #[.string ⟨#[g.byte]⟩, .func (.func g.fn) #[] #[], .iface (nodeT x) (nodeP x), .iface (nodeT y) (nodeP y)] 86)).drew none :=
    ⟨World.cell?_alloc_mark w _ _ _ _, World.cell?_alloc_mark w _ _ _ _, grownBy_drew (World.grownBy_alloc _ _ _)⟩
  go_region_held3 (fun w' => w'.cell? ⟨w.heap.size, 2, none⟩ = some (.iface (nodeT x) (nodeP x)) ∧ w'.cell? ⟨w.heap.size, 3, none⟩ = some (.iface (nodeT y) (nodeP y)) ∧ w.grownBy w' none)
    (first | exact hb | exact held2 (by assumption) gx | exact held2 (by assumption) gy)
    (first | (refine (ihx _).mono ?_; rintro e w2 ⟨rfl, gx⟩) | (refine (ihy _).mono ?_; rintro e w3 ⟨rfl, gy⟩))
  all_goals
    go_wp2_with fail
    go_ret
    exact ⟨congrArg (fun z : Int => Ending.returned (Value.int .i64 z)) (by show _ = ((x.ls + y.ls : Nat) : Int); omega), grownBy_trans (grownBy_trans hb.2.2 gx) gy⟩

theorem ls_all : ∀ t : Tr, t.ls ≤ 60 → LsOk t := by
  intro t
  induction t with
  | lt k =>
    intro _ w
    show Calls Try.prog 104 #[.int .i64 k.num] w _
    go_enter Try.func104, Try.ntmps104
    go_wp2_with fail
    go_ret
    exact ⟨rfl, grownBy_refl _ _⟩
  | tru b =>
    intro _ w
    show Calls Try.prog 106 #[.bool b] w _
    go_enter Try.func106, Try.ntmps106
    go_wp2_with fail
    go_ret
    exact ⟨rfl, grownBy_refl _ _⟩
  | neg x ih => intro h; exact ls_neg (ih h)
  | bin g x y ihx ihy =>
    intro h
    have hxy : x.ls + y.ls ≤ 60 := h
    exact ls_bin (ihx (by omega)) (ihy (by omega)) (by omega) (by omega)

theorem letters_any (s : ByteArray) (w : World) :
    Calls Try.prog 40 #[.string s] w fun e w' => e = .returned (.int .i64 (lsI (bl s))) ∧ w.grownBy w' none := by
  cases h : fOf (bl s) with
  | none =>
    have ht := tree_no s w h
    rw [lsI_f h]
    clear h
    go_enter Try.func40, Try.ntmps40
    go_wp2_with fail
    refine ht.mono ?_
    rintro e w1 ⟨v, hv, rfl, g1⟩
    go_wp2_with fail
    go_ret
    exact ⟨rfl, g1⟩
  | some t =>
    have ht := tree_yes s w h
    have hl := ls_le t
    have hl2 := (fOf_some h).2
    have ha := ls_all t (by omega)
    have hm := ls_meth t
    have he := ls_enter t
    rw [lsI_t h]
    clear h hl hl2
    go_enter Try.func40, Try.ntmps40
    go_wp2_with fail
    refine ht.mono ?_
    rintro e w1 ⟨rfl, g1⟩
    clear ht
    go_wp2_with fail
    refine (ha _).mono ?_
    rintro e w2 ⟨rfl, g2⟩
    go_wp2_with fail
    go_ret
    exact ⟨rfl, grownBy_trans g1 g2⟩

end Go.Proofs.Ytbalikemmilnaaa
