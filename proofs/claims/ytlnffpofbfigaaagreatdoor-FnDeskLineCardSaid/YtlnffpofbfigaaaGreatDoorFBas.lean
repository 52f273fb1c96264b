/-
  impl.BasicOf: a tree written with following and false alone, as texts of at most 60 bytes, by induction on the tree. No condition.
-/
import Derived.Test.YtlnffpofbfigaaaGreatDoorPair
import Derived.Laws.EntriesVeiled
namespace Go.Proofs.YtlnffpofbfigaaaGreatDoor
open Go.RowKit Go.Maps Go.Joins

theorem bfol_any (t u : Tr) (w : World) :
    Calls Tryz.prog 239 #[.string (lb t), .string (lb u)] w fun e w' => e = .returned (.string (lb (.bin .fol t u))) ∧ w = w' := by
  have s1 := lb_size t
  have s2 := lb_size u
  have hl := fol_len t u
  have m : maxLen = 9223372036854775807 := rfl
  by_cases ht : t.txt.length ≤ 60
  · by_cases hu : u.txt.length ≤ 60
    · have e1 := lb_some ht
      have e2 := lb_some hu
      have k1 := lb_len ht
      have k2 := lb_len hu
      by_cases h : t.txt.length + u.txt.length + 3 ≤ 60
      · have e := Lib.hid (lb_fol ht hu h)
        have s3 : (lb t).size + (lb u).size ≤ 57 := by omega
        clear k1 k2 hl h ht hu
        go_enter Tryz.func239, Tryz.ntmps239
        go_wp2_with (go_at_call 136; refine (ptx_any _ _ _ (by omega) rfl _).mono ?_; rintro e w1 ⟨rfl, rfl⟩)
        go_ret
        exact ⟨by rw [← e.out]; rfl, rfl⟩
      · have e := Lib.hid (lb_long (t := .bin .fol t u) (by rw [hl]; exact h))
        have s3 : 58 ≤ (lb t).size + (lb u).size := by omega
        clear k1 k2 hl h ht hu
        go_enter Tryz.func239, Tryz.ntmps239
        go_wp2_with (go_at_call 136; refine (ptx_any _ _ _ (by omega) rfl _).mono ?_; rintro e w1 ⟨rfl, rfl⟩)
        go_ret
        exact ⟨by rw [← e.out]; rfl, rfl⟩
    · have e := Lib.hid (lb_long (t := .bin .fol t u) (by rw [hl]; omega))
      have e1 := lb_some ht
      have e2 := lb_none hu
      clear hl ht hu
      go_enter Tryz.func239, Tryz.ntmps239
      go_wp2_with (go_at_call 136; refine (ptx_any _ _ _ (by omega) rfl _).mono ?_; rintro e w1 ⟨rfl, rfl⟩)
      go_ret
      exact ⟨by rw [← e.out]; rfl, rfl⟩
  · have e := Lib.hid (lb_long (t := .bin .fol t u) (by rw [hl]; omega))
    have e1 := lb_none ht
    clear hl ht
    go_enter Tryz.func239, Tryz.ntmps239
    go_wp2_with (go_at_call 136; refine (ptx_any _ _ _ (by omega) rfl _).mono ?_; rintro e w1 ⟨rfl, rfl⟩)
    go_ret
    exact ⟨by rw [← e.out]; rfl, rfl⟩

theorem lb_F : (⟨#[48]⟩ : ByteArray) = lb Tr.F := rfl

theorem bnot_any (t : Tr) (w : World) :
    Calls Tryz.prog 242 #[.string (lb t)] w fun e w' => e = .returned (.string (lb (Tr.no t))) ∧ w = w' := by
  have c1 := bfol_any t Tr.F
  rw [← lb_F] at c1
  go_enter Tryz.func242, Tryz.ntmps242
  go_wp2_with fail
  refine (c1 _).mono ?_
  rintro e w1 ⟨rfl, rfl⟩
  go_wp2_with fail
  go_ret
  exact ⟨rfl, rfl⟩

def bsFn : Tr → FuncId
  | .lt _ => 235
  | .tru _ => 237
  | .neg _ => 240
  | .bin _ _ _ => 245

theorem bs_meth (t : Tr) (F : Nat) (w : World) : (method (F + 1) (nodeT t) (nodeP t) "loop.example/manyvalues/impl.basic").run Tryz.prog w = .ok (bsFn t, nodeP t) w := by
  cases t <;> kernel_rfl

theorem bs_nil (t : Tr) (F : Nat) (w : World) : (nilAhead (F + 1) (nodeT t) (nodeP t) "loop.example/manyvalues/impl.basic").run Tryz.prog w = .ok (some false) w := by
  cases t <;> kernel_rfl

theorem bs_enter (t : Tr) (args : Array Value) (w : World) : (callFunc (bsFn t) args).run Tryz.prog w = .ok (.enter (bsFn t) args) w := by
  cases t <;> kernel_rfl

def BsOk (t : Tr) : Prop := ∀ w : World, Calls Tryz.prog (bsFn t) #[nodeP t] w fun e w' => e = .returned (.string (lb t.bas)) ∧ w.grownBy w' none

theorem bs_lt (k : Lr) : BsOk (.lt k) := by
  intro w
  cases k
  all_goals
    show Calls Tryz.prog 235 #[.int .i64 _] w _
    unfold Lr.num
    go_enter Tryz.func235, Tryz.ntmps235
    go_wp2_with fail
    go_ret
    exact ⟨rfl, grownBy_refl _ _⟩

theorem bs_tru (b : Bool) : BsOk (.tru b) := by
  intro w
  cases b
  · show Calls Tryz.prog 237 #[.bool false] w _
    go_enter Tryz.func237, Tryz.ntmps237
    go_wp2_with fail
    go_ret
    exact ⟨rfl, grownBy_refl _ _⟩
  · show Calls Tryz.prog 237 #[.bool true] w _
    have c1 := bfol_any Tr.F Tr.F
    rw [← lb_F] at c1
    go_enter Tryz.func237, Tryz.ntmps237
    go_wp2_with fail
    refine (c1 _).mono ?_
    rintro e w1 ⟨rfl, rfl⟩
    clear c1
    go_wp2_with fail
    go_ret
    exact ⟨rfl, grownBy_refl _ _⟩

theorem bs_neg {x : Tr} (ih : BsOk x) : BsOk (.neg x) := by
  intro w
  have hm := bs_meth x
  have he := bs_enter x
  show Calls Tryz.prog 240 #[.agg #[.iface (nodeT x) (nodeP x)]] w _
  go_enter Tryz.func240, Tryz.ntmps240
  go_wp2_with fail
  refine (ih _).mono ?_
  rintro e w1 ⟨rfl, g1⟩
  clear hm he
  go_wp2_with fail
  refine (bnot_any _ _).mono ?_
  rintro e w2 ⟨rfl, rfl⟩
  go_wp2_with fail
  go_ret
  exact ⟨rfl, grownBy_trans (World.grownBy_alloc _ _ _) g1⟩

theorem held3 {w0 w1 w2 : World} {a b c : Addr} {x y z : Value} (h : w1.cell? a = some x ∧ w1.cell? b = some y ∧ w1.cell? c = some z ∧ w0.grownBy w1 none) (hg : w1.grownBy w2 none) :
    w2.cell? a = some x ∧ w2.cell? b = some y ∧ w2.cell? c = some z ∧ w0.grownBy w2 none := ⟨cell_grown h.1 hg, cell_grown h.2.1 hg, cell_grown h.2.2.1 hg, grownBy_trans h.2.2.2 hg⟩

set_option maxHeartbeats 2000000 in
theorem bs_fol {x y : Tr} (ihx : BsOk x) (ihy : BsOk y) : BsOk (.bin .fol x y) := by
  intro w
  have hm := bs_meth x
  have hm2 := bs_meth y
  have he := bs_enter x
  have he2 := bs_enter y
  have hn := bs_nil x
  have hn2 := bs_nil y
  have cx : ∀ w : World, Calls Tryz.prog (bsFn x) #[nodeP x] w fun e w' => e = .returned (.string (lb x.bas)) ∧ w.grownBy w' none := ihx
  have cy : ∀ w : World, Calls Tryz.prog (bsFn y) #[nodeP y] w fun e w' => e = .returned (.string (lb y.bas)) ∧ w.grownBy w' none := ihy
  clear ihx ihy
  show Calls Tryz.prog 245 #[.agg #[.string ⟨#[62]⟩, .func (.func 170) #[] #[], .iface (nodeT x) (nodeP x), .iface (nodeT y) (nodeP y)]] w _
  go_enter Tryz.func245, Tryz.ntmps245
  go_wp2_with fail
  have hb : (w.alloc (.cells #[.string ⟨#[62]⟩, .func (.func 170) #[] #[], .iface (nodeT x) (nodeP x), .iface (nodeT y) (nodeP y)] 205)).drew.cell? ⟨w.heap.size, 0, none⟩ = some (.string ⟨#[62]⟩) ∧ (w.alloc (.cells #[.string ⟨#[62]⟩, .func (.func 170) #[] #[], .iface (nodeT x) (nodeP x), .iface (nodeT y) (nodeP y)] 205)).drew.cell? ⟨w.heap.size, 2, none⟩ = some (.iface (nodeT x) (nodeP x)) ∧ (w.alloc (.cells #[.string ⟨#[62]⟩, .func (.func 170) #[] #[], .iface (nodeT x) (nodeP x), .iface (nodeT y) (nodeP y)] 205)).drew.cell? ⟨w.heap.size, 3, none⟩ = some (.iface (nodeT y) (nodeP y)) ∧ w.grownBy (w.alloc (.cells #[.string ⟨#[62]⟩, .func (.func 170) #[] #[], .iface (nodeT x) (nodeP x), .iface (nodeT y) (nodeP y)] 205)).drew none :=
    ⟨World.cell?_alloc_mark w _ _ _ _, World.cell?_alloc_mark w _ _ _ _, World.cell?_alloc_mark w _ _ _ _, grownBy_drew (World.grownBy_alloc _ _ _)⟩
  go_region_held3 (fun w' => w'.cell? ⟨w.heap.size, 0, none⟩ = some (.string ⟨#[62]⟩) ∧ w'.cell? ⟨w.heap.size, 2, none⟩ = some (.iface (nodeT x) (nodeP x)) ∧ w'.cell? ⟨w.heap.size, 3, none⟩ = some (.iface (nodeT y) (nodeP y)) ∧ w.grownBy w' none)
    (first | exact hb | exact held3 (by assumption) gx | exact held3 (by assumption) gy)
    (first | ((with_reducible refine (cx _).mono ?_); rintro e w2 ⟨rfl, gx⟩) | ((with_reducible refine (cy _).mono ?_); rintro e w3 ⟨rfl, gy⟩))
  all_goals
    have hc := cell_grown (cell_grown hb.1 gx) gy
    have hgg := grownBy_trans (grownBy_trans hb.2.2.2 gx) gy
    clear hm hm2 he he2 hn hn2 cx cy hb gx gy
    go_wp2_with fail
    refine (bfol_any _ _ _).mono ?_
    rintro e w2 ⟨rfl, rfl⟩
    go_wp2_with fail
    go_ret
    exact ⟨rfl, hgg⟩

set_option maxHeartbeats 2000000 in
theorem bs_plus {x y : Tr} (ihx : BsOk x) (ihy : BsOk y) : BsOk (.bin .plus x y) := by
  intro w
  have hm := bs_meth x
  have hm2 := bs_meth y
  have he := bs_enter x
  have he2 := bs_enter y
  have hn := bs_nil x
  have hn2 := bs_nil y
  have cx : ∀ w : World, Calls Tryz.prog (bsFn x) #[nodeP x] w fun e w' => e = .returned (.string (lb x.bas)) ∧ w.grownBy w' none := ihx
  have cy : ∀ w : World, Calls Tryz.prog (bsFn y) #[nodeP y] w fun e w' => e = .returned (.string (lb y.bas)) ∧ w.grownBy w' none := ihy
  clear ihx ihy
  show Calls Tryz.prog 245 #[.agg #[.string ⟨#[43]⟩, .func (.func 171) #[] #[], .iface (nodeT x) (nodeP x), .iface (nodeT y) (nodeP y)]] w _
  go_enter Tryz.func245, Tryz.ntmps245
  go_wp2_with fail
  have hb : (w.alloc (.cells #[.string ⟨#[43]⟩, .func (.func 171) #[] #[], .iface (nodeT x) (nodeP x), .iface (nodeT y) (nodeP y)] 205)).drew.cell? ⟨w.heap.size, 0, none⟩ = some (.string ⟨#[43]⟩) ∧ (w.alloc (.cells #[.string ⟨#[43]⟩, .func (.func 171) #[] #[], .iface (nodeT x) (nodeP x), .iface (nodeT y) (nodeP y)] 205)).drew.cell? ⟨w.heap.size, 2, none⟩ = some (.iface (nodeT x) (nodeP x)) ∧ (w.alloc (.cells #[.string ⟨#[43]⟩, .func (.func 171) #[] #[], .iface (nodeT x) (nodeP x), .iface (nodeT y) (nodeP y)] 205)).drew.cell? ⟨w.heap.size, 3, none⟩ = some (.iface (nodeT y) (nodeP y)) ∧ w.grownBy (w.alloc (.cells #[.string ⟨#[43]⟩, .func (.func 171) #[] #[], .iface (nodeT x) (nodeP x), .iface (nodeT y) (nodeP y)] 205)).drew none :=
    ⟨World.cell?_alloc_mark w _ _ _ _, World.cell?_alloc_mark w _ _ _ _, World.cell?_alloc_mark w _ _ _ _, grownBy_drew (World.grownBy_alloc _ _ _)⟩
  go_region_held3 (fun w' => w'.cell? ⟨w.heap.size, 0, none⟩ = some (.string ⟨#[43]⟩) ∧ w'.cell? ⟨w.heap.size, 2, none⟩ = some (.iface (nodeT x) (nodeP x)) ∧ w'.cell? ⟨w.heap.size, 3, none⟩ = some (.iface (nodeT y) (nodeP y)) ∧ w.grownBy w' none)
    (first | exact hb | exact held3 (by assumption) gx | exact held3 (by assumption) gy)
    (first | ((with_reducible refine (cx _).mono ?_); rintro e w2 ⟨rfl, gx⟩) | ((with_reducible refine (cy _).mono ?_); rintro e w3 ⟨rfl, gy⟩))
  all_goals
    have hc := cell_grown (cell_grown hb.1 gx) gy
    have hgg := grownBy_trans (grownBy_trans hb.2.2.2 gx) gy
    clear hm hm2 he he2 hn hn2 cx cy hb gx gy
    go_wp2_with fail
    refine (bnot_any _ _).mono ?_
    rintro e w2 ⟨rfl, rfl⟩
    go_wp2_with fail
    refine (bfol_any _ _ _).mono ?_
    rintro e w2 ⟨rfl, rfl⟩
    go_wp2_with fail
    go_ret
    exact ⟨rfl, hgg⟩

set_option maxHeartbeats 2000000 in
theorem bs_times {x y : Tr} (ihx : BsOk x) (ihy : BsOk y) : BsOk (.bin .times x y) := by
  intro w
  have hm := bs_meth x
  have hm2 := bs_meth y
  have he := bs_enter x
  have he2 := bs_enter y
  have hn := bs_nil x
  have hn2 := bs_nil y
  have cx : ∀ w : World, Calls Tryz.prog (bsFn x) #[nodeP x] w fun e w' => e = .returned (.string (lb x.bas)) ∧ w.grownBy w' none := ihx
  have cy : ∀ w : World, Calls Tryz.prog (bsFn y) #[nodeP y] w fun e w' => e = .returned (.string (lb y.bas)) ∧ w.grownBy w' none := ihy
  clear ihx ihy
  show Calls Tryz.prog 245 #[.agg #[.string ⟨#[42]⟩, .func (.func 172) #[] #[], .iface (nodeT x) (nodeP x), .iface (nodeT y) (nodeP y)]] w _
  go_enter Tryz.func245, Tryz.ntmps245
  go_wp2_with fail
  have hb : (w.alloc (.cells #[.string ⟨#[42]⟩, .func (.func 172) #[] #[], .iface (nodeT x) (nodeP x), .iface (nodeT y) (nodeP y)] 205)).drew.cell? ⟨w.heap.size, 0, none⟩ = some (.string ⟨#[42]⟩) ∧ (w.alloc (.cells #[.string ⟨#[42]⟩, .func (.func 172) #[] #[], .iface (nodeT x) (nodeP x), .iface (nodeT y) (nodeP y)] 205)).drew.cell? ⟨w.heap.size, 2, none⟩ = some (.iface (nodeT x) (nodeP x)) ∧ (w.alloc (.cells #[.string ⟨#[42]⟩, .func (.func 172) #[] #[], .iface (nodeT x) (nodeP x), .iface (nodeT y) (nodeP y)] 205)).drew.cell? ⟨w.heap.size, 3, none⟩ = some (.iface (nodeT y) (nodeP y)) ∧ w.grownBy (w.alloc (.cells #[.string ⟨#[42]⟩, .func (.func 172) #[] #[], .iface (nodeT x) (nodeP x), .iface (nodeT y) (nodeP y)] 205)).drew none :=
    ⟨World.cell?_alloc_mark w _ _ _ _, World.cell?_alloc_mark w _ _ _ _, World.cell?_alloc_mark w _ _ _ _, grownBy_drew (World.grownBy_alloc _ _ _)⟩
  go_region_held3 (fun w' => w'.cell? ⟨w.heap.size, 0, none⟩ = some (.string ⟨#[42]⟩) ∧ w'.cell? ⟨w.heap.size, 2, none⟩ = some (.iface (nodeT x) (nodeP x)) ∧ w'.cell? ⟨w.heap.size, 3, none⟩ = some (.iface (nodeT y) (nodeP y)) ∧ w.grownBy w' none)
    (first | exact hb | exact held3 (by assumption) gx | exact held3 (by assumption) gy)
    (first | ((with_reducible refine (cx _).mono ?_); rintro e w2 ⟨rfl, gx⟩) | ((with_reducible refine (cy _).mono ?_); rintro e w3 ⟨rfl, gy⟩))
  all_goals
    have hc := cell_grown (cell_grown hb.1 gx) gy
    have hgg := grownBy_trans (grownBy_trans hb.2.2.2 gx) gy
    clear hm hm2 he he2 hn hn2 cx cy hb gx gy
    go_wp2_with fail
    refine (bnot_any _ _).mono ?_
    rintro e w2 ⟨rfl, rfl⟩
    go_wp2_with fail
    refine (bfol_any _ _ _).mono ?_
    rintro e w2 ⟨rfl, rfl⟩
    go_wp2_with fail
    refine (bnot_any _ _).mono ?_
    rintro e w2 ⟨rfl, rfl⟩
    go_wp2_with fail
    go_ret
    exact ⟨rfl, hgg⟩

set_option maxHeartbeats 2000000 in
theorem bs_less {x y : Tr} (ihx : BsOk x) (ihy : BsOk y) : BsOk (.bin .less x y) := by
  intro w
  have hm := bs_meth x
  have hm2 := bs_meth y
  have he := bs_enter x
  have he2 := bs_enter y
  have hn := bs_nil x
  have hn2 := bs_nil y
  have cx : ∀ w : World, Calls Tryz.prog (bsFn x) #[nodeP x] w fun e w' => e = .returned (.string (lb x.bas)) ∧ w.grownBy w' none := ihx
  have cy : ∀ w : World, Calls Tryz.prog (bsFn y) #[nodeP y] w fun e w' => e = .returned (.string (lb y.bas)) ∧ w.grownBy w' none := ihy
  clear ihx ihy
  show Calls Tryz.prog 245 #[.agg #[.string ⟨#[38]⟩, .func (.func 173) #[] #[], .iface (nodeT x) (nodeP x), .iface (nodeT y) (nodeP y)]] w _
  go_enter Tryz.func245, Tryz.ntmps245
  go_wp2_with fail
  have hb : (w.alloc (.cells #[.string ⟨#[38]⟩, .func (.func 173) #[] #[], .iface (nodeT x) (nodeP x), .iface (nodeT y) (nodeP y)] 205)).drew.cell? ⟨w.heap.size, 0, none⟩ = some (.string ⟨#[38]⟩) ∧ (w.alloc (.cells #[.string ⟨#[38]⟩, .func (.func 173) #[] #[], .iface (nodeT x) (nodeP x), .iface (nodeT y) (nodeP y)] 205)).drew.cell? ⟨w.heap.size, 2, none⟩ = some (.iface (nodeT x) (nodeP x)) ∧ (w.alloc (.cells #[.string ⟨#[38]⟩, .func (.func 173) #[] #[], .iface (nodeT x) (nodeP x), .iface (nodeT y) (nodeP y)] 205)).drew.cell? ⟨w.heap.size, 3, none⟩ = some (.iface (nodeT y) (nodeP y)) ∧ w.grownBy (w.alloc (.cells #[.string ⟨#[38]⟩, .func (.func 173) #[] #[], .iface (nodeT x) (nodeP x), .iface (nodeT y) (nodeP y)] 205)).drew none :=
    ⟨World.cell?_alloc_mark w _ _ _ _, World.cell?_alloc_mark w _ _ _ _, World.cell?_alloc_mark w _ _ _ _, grownBy_drew (World.grownBy_alloc _ _ _)⟩
  go_region_held3 (fun w' => w'.cell? ⟨w.heap.size, 0, none⟩ = some (.string ⟨#[38]⟩) ∧ w'.cell? ⟨w.heap.size, 2, none⟩ = some (.iface (nodeT x) (nodeP x)) ∧ w'.cell? ⟨w.heap.size, 3, none⟩ = some (.iface (nodeT y) (nodeP y)) ∧ w.grownBy w' none)
    (first | exact hb | exact held3 (by assumption) gx | exact held3 (by assumption) gy)
    (first | ((with_reducible refine (cx _).mono ?_); rintro e w2 ⟨rfl, gx⟩) | ((with_reducible refine (cy _).mono ?_); rintro e w3 ⟨rfl, gy⟩))
  all_goals
    have hc := cell_grown (cell_grown hb.1 gx) gy
    have hgg := grownBy_trans (grownBy_trans hb.2.2.2 gx) gy
    clear hm hm2 he he2 hn hn2 cx cy hb gx gy
    go_wp2_with fail
    refine (bfol_any _ _ _).mono ?_
    rintro e w2 ⟨rfl, rfl⟩
    go_wp2_with fail
    refine (bnot_any _ _).mono ?_
    rintro e w2 ⟨rfl, rfl⟩
    go_wp2_with fail
    refine (bfol_any _ _ _).mono ?_
    rintro e w2 ⟨rfl, rfl⟩
    go_wp2_with fail
    refine (bnot_any _ _).mono ?_
    rintro e w2 ⟨rfl, rfl⟩
    go_wp2_with fail
    go_ret
    exact ⟨rfl, hgg⟩

set_option maxHeartbeats 2000000 in
theorem bs_great {x y : Tr} (ihx : BsOk x) (ihy : BsOk y) : BsOk (.bin .great x y) := by
  intro w
  have hm := bs_meth x
  have hm2 := bs_meth y
  have he := bs_enter x
  have he2 := bs_enter y
  have hn := bs_nil x
  have hn2 := bs_nil y
  have cx : ∀ w : World, Calls Tryz.prog (bsFn x) #[nodeP x] w fun e w' => e = .returned (.string (lb x.bas)) ∧ w.grownBy w' none := ihx
  have cy : ∀ w : World, Calls Tryz.prog (bsFn y) #[nodeP y] w fun e w' => e = .returned (.string (lb y.bas)) ∧ w.grownBy w' none := ihy
  clear ihx ihy
  show Calls Tryz.prog 245 #[.agg #[.string ⟨#[124]⟩, .func (.func 174) #[] #[], .iface (nodeT x) (nodeP x), .iface (nodeT y) (nodeP y)]] w _
  go_enter Tryz.func245, Tryz.ntmps245
  go_wp2_with fail
  have hb : (w.alloc (.cells #[.string ⟨#[124]⟩, .func (.func 174) #[] #[], .iface (nodeT x) (nodeP x), .iface (nodeT y) (nodeP y)] 205)).drew.cell? ⟨w.heap.size, 0, none⟩ = some (.string ⟨#[124]⟩) ∧ (w.alloc (.cells #[.string ⟨#[124]⟩, .func (.func 174) #[] #[], .iface (nodeT x) (nodeP x), .iface (nodeT y) (nodeP y)] 205)).drew.cell? ⟨w.heap.size, 2, none⟩ = some (.iface (nodeT x) (nodeP x)) ∧ (w.alloc (.cells #[.string ⟨#[124]⟩, .func (.func 174) #[] #[], .iface (nodeT x) (nodeP x), .iface (nodeT y) (nodeP y)] 205)).drew.cell? ⟨w.heap.size, 3, none⟩ = some (.iface (nodeT y) (nodeP y)) ∧ w.grownBy (w.alloc (.cells #[.string ⟨#[124]⟩, .func (.func 174) #[] #[], .iface (nodeT x) (nodeP x), .iface (nodeT y) (nodeP y)] 205)).drew none :=
    ⟨World.cell?_alloc_mark w _ _ _ _, World.cell?_alloc_mark w _ _ _ _, World.cell?_alloc_mark w _ _ _ _, grownBy_drew (World.grownBy_alloc _ _ _)⟩
  go_region_held3 (fun w' => w'.cell? ⟨w.heap.size, 0, none⟩ = some (.string ⟨#[124]⟩) ∧ w'.cell? ⟨w.heap.size, 2, none⟩ = some (.iface (nodeT x) (nodeP x)) ∧ w'.cell? ⟨w.heap.size, 3, none⟩ = some (.iface (nodeT y) (nodeP y)) ∧ w.grownBy w' none)
    (first | exact hb | exact held3 (by assumption) gx | exact held3 (by assumption) gy)
    (first | ((with_reducible refine (cx _).mono ?_); rintro e w2 ⟨rfl, gx⟩) | ((with_reducible refine (cy _).mono ?_); rintro e w3 ⟨rfl, gy⟩))
  all_goals
    have hc := cell_grown (cell_grown hb.1 gx) gy
    have hgg := grownBy_trans (grownBy_trans hb.2.2.2 gx) gy
    clear hm hm2 he he2 hn hn2 cx cy hb gx gy
    go_wp2_with fail
    refine (bfol_any _ _ _).mono ?_
    rintro e w2 ⟨rfl, rfl⟩
    go_wp2_with fail
    refine (bfol_any _ _ _).mono ?_
    rintro e w2 ⟨rfl, rfl⟩
    go_wp2_with fail
    go_ret
    exact ⟨rfl, hgg⟩

theorem bs_all : ∀ t : Tr, BsOk t := by
  intro t
  induction t with
  | lt k => exact bs_lt k
  | tru b => exact bs_tru b
  | neg x ih => exact bs_neg ih
  | bin g x y ihx ihy =>
    cases g
    · exact bs_fol ihx ihy
    · exact bs_plus ihx ihy
    · exact bs_times ihx ihy
    · exact bs_less ihx ihy
    · exact bs_great ihx ihy


theorem basic_any (s : ByteArray) (w : World) :
    Calls Tryz.prog 137 #[.string s] w fun e w' => e = .returned (.tuple #[.string (bbT (bl s)), .bool (basB (bl s))]) ∧ w.grownBy w' none := by
  cases h : fOf (bl s) with
  | none =>
    have ht := tree_no s w h
    have e1 : bbT (bl s) = ⟨#[]⟩ := by unfold bbT; rw [basT_f h]
    rw [e1, basB_f h]
    clear h e1
    go_enter Tryz.func137, Tryz.ntmps137
    go_wp2_with fail
    refine ht.mono ?_
    rintro e w1 ⟨v, hv, rfl, g1⟩
    go_wp2_with fail
    go_ret2
    exact ⟨rfl, g1⟩
  | some t =>
    have ht := tree_yes s w h
    have ha := bs_all t
    unfold BsOk at ha
    have hm := bs_meth t
    have he := bs_enter t
    have e1 : bbT (bl s) = lb t.bas := by unfold bbT; rw [basT_t h]; rfl
    rw [e1, basB_t h]
    clear h e1
    by_cases hl : t.bas.txt.length ≤ 60
    · have e2 := lb_some hl
      rw [decide_eq_true hl]
      clear hl
      go_enter Tryz.func137, Tryz.ntmps137
      go_wp2_with fail
      refine ht.mono ?_
      rintro e w1 ⟨rfl, g1⟩
      clear ht
      go_wp2_with fail
      refine (ha _).mono ?_
      rintro e w2 ⟨rfl, g2⟩
      clear ha hm he
      go_wp2_with fail
      go_ret2
      exact ⟨rfl, grownBy_trans g1 g2⟩
    · have e2 := lb_none hl
      rw [decide_eq_false hl]
      clear hl
      go_enter Tryz.func137, Tryz.ntmps137
      go_wp2_with fail
      refine ht.mono ?_
      rintro e w1 ⟨rfl, g1⟩
      clear ht
      go_wp2_with fail
      refine (ha _).mono ?_
      rintro e w2 ⟨rfl, g2⟩
      clear ha hm he
      go_wp2_with fail
      go_ret2
      exact ⟨rfl, grownBy_trans g1 g2⟩

end Go.Proofs.YtlnffpofbfigaaaGreatDoor
