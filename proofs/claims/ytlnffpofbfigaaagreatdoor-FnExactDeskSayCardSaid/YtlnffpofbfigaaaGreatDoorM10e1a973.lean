/-
  Joined out of the texts DDraw, DX8, DRowD, DXD, DDs, DRun, DDk, DDd, DRd, DXS, DWd: what each holds is told at its head.
-/
import Derived.Test.YtlnffpofbfigaaaGreatDoorM2175222d
import Derived.Test.YtlnffpofbfigaaaGreatDoorM323050c2
import Derived.Test.YtlnffpofbfigaaaGreatDoorM9c42aede
import Derived.Deep.DeepCutAuto
import Derived.Deep.RegionHeld3
import Derived.Deep.CutRange
import Derived.Laws.ResultCell

/-
  The draws of chapter 12: a deed.
-/
namespace Go.Proofs.YtlnffpofbfigaaaGreatDoor
open Go.RowKit

theorem lit8 (k : Nat) (h : k < 8) : ∃ v : Int, (#[.int .i64 0, .int .i64 1, .int .i64 1, .int .i64 2, .int .i64 3, .int .i64 4, .int .i64 5, .int .i64 6] : Array Value)[k]? = some (.int .i64 v) ∧ 0 ≤ v ∧ v ≤ 6 := by
  match k, h with
  | 0, _ => exact ⟨_, rfl, by decide⟩
  | 1, _ => exact ⟨_, rfl, by decide⟩
  | 2, _ => exact ⟨_, rfl, by decide⟩
  | 3, _ => exact ⟨_, rfl, by decide⟩
  | 4, _ => exact ⟨_, rfl, by decide⟩
  | 5, _ => exact ⟨_, rfl, by decide⟩
  | 6, _ => exact ⟨_, rfl, by decide⟩
  | 7, _ => exact ⟨_, rfl, by decide⟩

theorem cell_made2 {w : World} {A : Obj} {C : Array Value} {t : TypeId} {k : Nat} {x : Value} (hC : C[k]? = some x) : ((w.alloc A).alloc (.cells C t)).cell? ⟨w.heap.size + 1, k, none⟩ = some x := (CellsAt.second w A C t).cell hC
theorem cell_kept2 {w w' : World} {A : Obj} {C : Array Value} {t : TypeId} {r k : Nat} {x : Value} (hg : ((w.alloc A).alloc (.cells C t)).grownBy w' (some r)) (hr : r < w.heap.size) (hC : C[k]? = some x) : w'.cell? ⟨w.heap.size + 1, k, none⟩ = some x :=
  ((CellsAt.second w A C t).kept hg (by simp; omega)).cell hC
theorem cell_kept3 {w w' : World} {A : Obj} {C : Array Value} {t : TypeId} {r k : Nat} {x : Value} (hg : ((w.alloc (.cells C t)).alloc A).grownBy w' (some r)) (hr : r < w.heap.size) (hC : C[k]? = some x) : w'.cell? ⟨w.heap.size, k, none⟩ = some x :=
  ((CellsAt.first w A C t).kept hg (by simp; omega)).cell hC

theorem af_1 {W0 wb : World} {r : Nat} (hg : (W0.alloc (.cells #[.int .i64 0, .int .i64 0, .string ⟨#[]⟩] 40)).grownBy wb (some r)) (hr : r < W0.heap.size) : CellsAt wb W0.heap.size #[.int .i64 0, .int .i64 0, .string ⟨#[]⟩] 40 := (CellsAt.new W0 _ _).kept hg (by simp; omega)
theorem af_2 {W0 wb : World} {X : Obj} {r : Nat} (hg : ((W0.alloc X).alloc (.cells #[.int .i64 0, .int .i64 0, .string ⟨#[]⟩] 40)).grownBy wb (some r)) (hr : r < W0.heap.size) : CellsAt wb (W0.heap.size + 1) #[.int .i64 0, .int .i64 0, .string ⟨#[]⟩] 40 := (CellsAt.second W0 X _ _).kept hg (by simp; omega)
theorem af_3 {W0 wb : World} {X : Obj} {r : Nat} (hg : ((W0.alloc (.cells #[.int .i64 0, .int .i64 0, .string ⟨#[]⟩] 40)).alloc X).grownBy wb (some r)) (hr : r < W0.heap.size) : CellsAt wb W0.heap.size #[.int .i64 0, .int .i64 0, .string ⟨#[]⟩] 40 := (CellsAt.first W0 X _ _).kept hg (by simp; omega)
theorem af_4 {wb wd : World} {b r : Nat} (h : CellsAt wb b #[.int .i64 0, .int .i64 0, .string ⟨#[]⟩] 40) (hg : wb.grownBy wd (some r)) (hr : r < b) : CellsAt wd b #[.int .i64 0, .int .i64 0, .string ⟨#[]⟩] 40 := h.kept hg (by simp; omega)
theorem af_5 {wb wd : World} {X : Obj} {b r : Nat} (h : CellsAt wb b #[.int .i64 0, .int .i64 0, .string ⟨#[]⟩] 40) (hg : (wb.alloc X).grownBy wd (some r)) (hr : r < b) : CellsAt wd b #[.int .i64 0, .int .i64 0, .string ⟨#[]⟩] 40 := (h.grown (World.grownBy_alloc _ _ none)).kept hg (by simp; omega)

theorem cell_stays2 {w1 w2 : World} {X : Obj} {r b k : Nat} {x : Value} (h : w1.cell? ⟨b, k, none⟩ = some x) (hg : (w1.alloc X).grownBy w2 (some r)) (hne : r < b) : w2.cell? ⟨b, k, none⟩ = some x :=
  cell_stays ((World.grownBy_alloc w1 X none).cell h (by simp)) hg hne

def DeedPost (r P : Nat) (w : World) (e : Ending) (w' : World) : Prop :=
  ∃ D : Dd, e = .returned (.agg #[.int .i64 D.1, .int .i64 D.2.1, .string (bs D.2.2)]) ∧ D.2.2.length ≤ 100 ∧ Rd w' r (P + 100) ∧ w.grownBy w' (some r)
/-- A deed that is being made: its block, and the result's. -/
def DeedAt (w0 : World) (r P : Nat) (v : Value) (wc : World) : Prop :=
  ∃ (b : Nat) (k : Int), v = .pointer (some ⟨b, 0, none⟩) ∧ CellsAt wc b #[.int .i64 k, .int .i64 0, .string ⟨#[]⟩] 40 ∧ w0.heap.size < b ∧ CellsAt wc w0.heap.size #[.int .i64 0, .int .i64 0, .string ⟨#[]⟩] 40 ∧ 0 ≤ k ∧ k ≤ 13 ∧ Rd wc r (P + 2) ∧ w0.grownBy wc (some r)

theorem kbound (v : Int) (k2 : Nat) (h : 0 ≤ v ∧ v ≤ 6) (hk : k2 < 60) : 0 ≤ IntKind.i64.wrap (v + IntKind.i64.wrap (IntKind.i64.wrap ((k2 : Int) / 59) * 7)) ∧ IntKind.i64.wrap (v + IntKind.i64.wrap (IntKind.i64.wrap ((k2 : Int) / 59) * 7)) ≤ 13 := by
  have e1 : IntKind.i64.wrap ((k2 : Int) / 59) = (k2 : Int) / 59 := IntWalk.i64_in _ (by omega)
  have e2 : IntKind.i64.wrap ((k2 : Int) / 59 * 7) = (k2 : Int) / 59 * 7 := IntWalk.i64_in _ (by omega)
  have e3 : IntKind.i64.wrap (v + (k2 : Int) / 59 * 7) = v + (k2 : Int) / 59 * 7 := IntWalk.i64_in _ (by omega)
  rw [e1, e2, e3]; omega
theorem deed_1 {w wd : World} {r P : Nat} {k : Int} (hR : CellsAt wd w.heap.size #[.int .i64 0, .int .i64 0, .string ⟨#[]⟩] 40) (hr : Rd wd r (P + 2)) (hg : w.grownBy wd (some r)) (hK : 0 ≤ k ∧ k ≤ 13) : DeedAt w r P (.pointer (some ⟨wd.heap.size, 0, none⟩)) (wd.alloc (.cells #[.int .i64 k, .int .i64 0, .string ⟨#[]⟩] 40)) :=
  ⟨_, k, rfl, CellsAt.new wd _ _, hR.lt, hR.grown (World.grownBy_alloc _ _ none), hK.1, hK.2, hr.alloc _, grownBy_trans hg (World.grownBy_alloc _ _ _)⟩
theorem deed_2 {w wd : World} {r P : Nat} {k : Int} {X : Obj} (hR : CellsAt wd w.heap.size #[.int .i64 0, .int .i64 0, .string ⟨#[]⟩] 40) (hr : Rd wd r (P + 2)) (hg : w.grownBy wd (some r)) (hK : 0 ≤ k ∧ k ≤ 13) : DeedAt w r P (.pointer (some ⟨wd.heap.size + 1, 0, none⟩)) ((wd.alloc X).alloc (.cells #[.int .i64 k, .int .i64 0, .string ⟨#[]⟩] 40)) :=
  ⟨_, k, rfl, CellsAt.second wd X _ _, by have := hR.lt; omega, (hR.grown (World.grownBy_alloc _ _ none)).grown (World.grownBy_alloc _ _ none), hK.1, hK.2, (hr.alloc _).alloc _, grownBy_trans (grownBy_trans hg (World.grownBy_alloc _ _ _)) (World.grownBy_alloc _ _ _)⟩
theorem deed_3 {w wd : World} {r P : Nat} {k : Int} {X : Obj} (hR : CellsAt wd w.heap.size #[.int .i64 0, .int .i64 0, .string ⟨#[]⟩] 40) (hr : Rd wd r (P + 2)) (hg : w.grownBy wd (some r)) (hK : 0 ≤ k ∧ k ≤ 13) : DeedAt w r P (.pointer (some ⟨wd.heap.size, 0, none⟩)) ((wd.alloc (.cells #[.int .i64 k, .int .i64 0, .string ⟨#[]⟩] 40)).alloc X) :=
  ⟨_, k, rfl, CellsAt.first wd X _ _, hR.lt, (hR.grown (World.grownBy_alloc _ _ none)).grown (World.grownBy_alloc _ _ none), hK.1, hK.2, (hr.alloc _).alloc _, grownBy_trans (grownBy_trans hg (World.grownBy_alloc _ _ _)) (World.grownBy_alloc _ _ _)⟩
theorem rd_sets {wd w' : World} {r P b : Nat} (hr : Rd wd r P) (hg : wd.grownBy w' (some b)) (hb : r < b) : Rd w' r P := hr.kept fun k hk => hg.block k (by have := hr.lt; omega) (by simp; omega)
theorem grown_sets {w wd w' : World} {r b : Nat} (h : w.grownBy wd (some r)) (hg : wd.grownBy w' (some b)) (hb : w.heap.size ≤ b) : w.grownBy w' (some r) :=
  ⟨hg.os.trans h.os, hg.tape.trans h.tape, hg.output.trans h.output, Nat.le_trans h.size hg.size, fun k hk hn => (hg.block k (Nat.lt_of_lt_of_le hk h.size) (by simp; omega)).trans (h.block k hk hn)⟩
theorem deed_4 {w wd : World} {r P b : Nat} {k : Int} (hR : CellsAt wd w.heap.size #[.int .i64 0, .int .i64 0, .string ⟨#[]⟩] 40) (hr : Rd wd r (P + 2)) (hg : w.grownBy wd (some r)) (hl : r < w.heap.size) (hK : 0 ≤ k ∧ k ≤ 13) (hZ : CellsAt wd b #[.int .i64 0, .int .i64 0, .string ⟨#[]⟩] 40) (hb : w.heap.size < b) : DeedAt w r P (.pointer (some ⟨b, 0, none⟩)) (((wd.setCell ⟨b, 0, none⟩ (.int .i64 k)).setCell ⟨b, 1, none⟩ (.int .i64 0)).setCell ⟨b, 2, none⟩ (.string ⟨#[]⟩)) :=
  ⟨b, k, rfl, hZ.put3 _ _ _, hb, hR.kept (put3_past wd b _ _ _) (by simp; omega), hK.1, hK.2, rd_sets hr (put3_past wd b _ _ _) (by omega), grown_sets hg (put3_past wd b _ _ _) (by omega)⟩
theorem deed_5 {w wd : World} {r P b : Nat} {k : Int} {X : Obj} (hR : CellsAt wd w.heap.size #[.int .i64 0, .int .i64 0, .string ⟨#[]⟩] 40) (hr : Rd wd r (P + 2)) (hg : w.grownBy wd (some r)) (hl : r < w.heap.size) (hK : 0 ≤ k ∧ k ≤ 13) (hZ : CellsAt wd b #[.int .i64 0, .int .i64 0, .string ⟨#[]⟩] 40) (hb : w.heap.size < b) : DeedAt w r P (.pointer (some ⟨b, 0, none⟩)) ((((wd.setCell ⟨b, 0, none⟩ (.int .i64 k)).setCell ⟨b, 1, none⟩ (.int .i64 0)).setCell ⟨b, 2, none⟩ (.string ⟨#[]⟩)).alloc X) := by
  obtain ⟨b', k', h1, h2, h3, h4, h5, h6, h7, h8⟩ := deed_4 (P := P) hR hr hg hl hK hZ hb
  exact ⟨b', k', h1, h2.grown (World.grownBy_alloc _ _ none), h3, h4.grown (World.grownBy_alloc _ _ none), h5, h6, h7.alloc _, grownBy_trans h8 (World.grownBy_alloc _ _ _)⟩

theorem sizeDd : (Tryz.prog.info? 40).map (·.size) = some 3 := by kernel_rfl
theorem resDd {fn : Func} {p : Tmp} (h : fn.results = #[.cell p 40]) (tmps : Array Value) {w : World} {B : Nat} {x y z : Value} (hp : tmps.getD p undef = .pointer (some ⟨B, 0, none⟩)) (hB : CellsAt w B #[x, y, z] 40) :
    (results fn tmps).run Tryz.prog w = .ok (.agg #[x, y, z]) w := results_cell_row h tmps w B 40 #[x, y, z] (0, 0) _ hp hB Tryz.underlying40 rfl sizeDd
theorem deed_end {w W : World} {r P Q : Nat} {K N : Int} {s : ByteArray} (hR : CellsAt W w.heap.size #[.int .i64 0, .int .i64 0, .string ⟨#[]⟩] 40) (hr : Rd W r Q) (hQ : Q ≤ P + 100) (hg : w.grownBy W (some r)) (hl : r < w.heap.size) (hs : s.size ≤ 100) :
    CellsAt (((W.setCell ⟨w.heap.size, 0, none⟩ (.int .i64 K)).setCell ⟨w.heap.size, 1, none⟩ (.int .i64 N)).setCell ⟨w.heap.size, 2, none⟩ (.string s)) w.heap.size #[.int .i64 K, .int .i64 N, .string s] 40 ∧
      DeedPost r P w (.returned (.agg #[.int .i64 K, .int .i64 N, .string s])) (((W.setCell ⟨w.heap.size, 0, none⟩ (.int .i64 K)).setCell ⟨w.heap.size, 1, none⟩ (.int .i64 N)).setCell ⟨w.heap.size, 2, none⟩ (.string s)) :=
  ⟨hR.put3 _ _ _, (K, N, bl s), rfl, by show (bl s).length ≤ 100; rw [← bl_size]; exact hs, (rd_sets hr (put3_past W _ _ _ _) hl).mono hQ, grown_sets hg (put3_past W _ _ _ _) (Nat.le_refl _)⟩
theorem set_facts {W : World} {b : Nat} {u v x : Value} (h : CellsAt W b #[u, v, x] 40) : (W.cell? ⟨b, 0, none⟩ = some u ∧ W.cell? ⟨b, 1, none⟩ = some v ∧ W.cell? ⟨b, 2, none⟩ = some x) ∧ W.frozen? ⟨b, 0, none⟩ = false ∧ W.frozen? ⟨b, 1, none⟩ = false ∧ W.frozen? ⟨b, 2, none⟩ = false := ⟨h.three, h.frozen 0, h.frozen 1, h.frozen 2⟩

set_option maxRecDepth 8000 in
set_option maxHeartbeats 8000000 in
theorem deed_draw (w : World) (r P : Nat) (hr : Rd w r P) (hP : P ≤ 60000) :
    Calls Tryz.prog 95 #[.pointer (some ⟨r, 0, none⟩)] w (DeedPost r P w) := by
  have hlt := hr.lt
  have hr0 := hr.alloc (.cells #[.int .i64 0, .int .i64 0, .string ⟨#[]⟩] 40)
  go_enter Tryz.func95, Tryz.ntmps95
  go_wp2_with fail
  have hRB := CellsAt.new w #[.int .i64 0, .int .i64 0, .string ⟨#[]⟩] 40
  have hg0 := World.grownBy_alloc w (.cells #[.int .i64 0, .int .i64 0, .string ⟨#[]⟩] 40) (some r)
  have hlw : w.heap.size < (w.alloc (.cells #[.int .i64 0, .int .i64 0, .string ⟨#[]⟩] 40)).heap.size := hRB.lt
  generalize w.alloc (.cells #[.int .i64 0, .int .i64 0, .string ⟨#[]⟩] 40) = W0 at *
  have HRB := Lib.hid hRB
  have HG0 := Lib.hid hg0
  have hl0 := hr0.lt
  clear hRB hg0 hr
  have p8 : ∀ w', Rd w' r P → Calls Tryz.prog 41 #[.pointer (some ⟨r, 0, none⟩), .int .i64 8] w' (PickPost 8 r P w') := fun w' h => pick_any 8 w' r P h (by omega)
  have p60 : ∀ w', Rd w' r (P + 1) → Calls Tryz.prog 41 #[.pointer (some ⟨r, 0, none⟩), .int .i64 60] w' (PickPost 60 r (P + 1) w') := fun w' h => pick_any 60 w' r (P + 1) h (by omega)
  go_cut [3] (fun v wc => DeedAt w r P v wc)
  case first =>
    go_region_with (first | (go_at_call 41; (with_reducible refine (p8 _ (by first | with_reducible exact hr0.drewn | with_reducible exact (hr0.alloc _).drewn | with_reducible exact ((hr0.alloc _).alloc _).drewn)).mono ?_); rintro e wb ⟨k1, rfl, hk0, hk1, hr1, hg1⟩; obtain ⟨k1, rfl⟩ := Int.eq_ofNat_of_zero_le hk0; obtain ⟨v1, hC, hv0, hv1⟩ := lit8 k1 (by omega); have hlt1 : (k1 : Int) < 8 := (by omega); have hl1 := hr1.lt; have hmp := @cell_made wb _ 3 k1 _ hC; have hmq := cell_made2 (w := wb) (A := .cells #[.int .i64 0, .int .i64 0, .string ⟨#[]⟩] 40) (t := 3) hC; (first | (with_reducible have hx := cell_keptD (grownBy_undrew hg1) (by omega) hC) | (with_reducible have hx := cell_kept2 (grownBy_undrew hg1) (by omega) hC) | (with_reducible have hx := cell_kept3 (grownBy_undrew hg1) (by omega) hC) | skip); (first | (have hxl := World.block_lt_of_cell? _ _ hx; dsimp only at hxl) | skip); (first | (with_reducible have HA := Lib.hid (af_1 (grownBy_undrew hg1) hl0)) | (with_reducible have HA := Lib.hid (af_2 (grownBy_undrew hg1) hl0)) | (with_reducible have HA := Lib.hid (af_3 (grownBy_undrew hg1) hl0)) | skip); (first | (obtain ⟨q0, q1, q2⟩ := HA.out.three; have j0 := HA.out.frozen 0; have j1 := HA.out.frozen 1; have j2 := HA.out.frozen 2; have hal := HA.out.lt) | skip)) | (go_at_call 41; (with_reducible refine (p60 _ (by first | with_reducible exact hr1 | with_reducible exact hr1.alloc _ | with_reducible exact (hr1.alloc _).alloc _)).mono ?_); rintro e wd ⟨k2, rfl, hm0, hm1, hr2, hg2⟩; obtain ⟨k2, rfl⟩ := Int.eq_ofNat_of_zero_le hm0; have hmr := @cell_made wd _ 3 k1 _ hC; have hms := cell_made2 (w := wd) (A := .cells #[.int .i64 0, .int .i64 0, .string ⟨#[]⟩] 40) (t := 3) hC; have hk2 : k2 < 60 := (by omega); (first | have hy := cell_stays hx hg2 (by omega) | have hy := cell_stays hmp hg2 (by omega) | have hy := cell_stays hmq hg2 (by omega) | have hy := cell_stays2 hx hg2 (by omega) | have hy := cell_stays2 hmp hg2 (by omega) | skip); (first | (have hyl := World.block_lt_of_cell? _ _ hy; dsimp only at hyl) | skip); (first | (with_reducible have HZ := Lib.hid (af_4 HA.out hg2 (by omega))) | (with_reducible have HZ := Lib.hid (af_5 HA.out hg2 (by omega))) | (with_reducible have HZ := Lib.hid (af_1 hg2 hl1)) | (with_reducible have HZ := Lib.hid (af_2 hg2 hl1)) | (with_reducible have HZ := Lib.hid (af_3 hg2 hl1)) | skip); (first | (obtain ⟨q0, q1, q2⟩ := HZ.out.three; have j0 := HZ.out.frozen 0; have j1 := HZ.out.frozen 1; have j2 := HZ.out.frozen 2; have hzl := HZ.out.lt) | skip)))
    all_goals
      go_wp2_with fail
      go_meet
      have hK := kbound v1 k2 ⟨hv0, hv1⟩ hk2
      have h1 : W0.grownBy wb (some r) := grownBy_trans (by first | exact grownBy_drew (grownBy_refl _ _) | exact grownBy_drew (World.grownBy_alloc _ _ _) | exact grownBy_drew (grownBy_trans (World.grownBy_alloc _ _ _) (World.grownBy_alloc _ _ _))) hg1
      have h2 : wb.grownBy wd (some r) := grownBy_trans (by first | exact grownBy_refl _ _ | exact World.grownBy_alloc _ _ _ | exact grownBy_trans (World.grownBy_alloc _ _ _) (World.grownBy_alloc _ _ _)) hg2
      have hgw := grownBy_trans HG0.out (grownBy_trans h1 h2)
      have hRd := HRB.out.kept (grownBy_trans h1 h2) (by simp; omega)
      have s1 := h1.size
      first
        | with_reducible exact deed_1 hRd hr2 hgw hK
        | with_reducible exact deed_2 hRd hr2 hgw hK
        | with_reducible exact deed_3 hRd hr2 hgw hK
        | with_reducible exact deed_4 hRd hr2 hgw hlt hK HZ.out (by omega)
        | with_reducible exact deed_5 hRd hr2 hgw hlt hK HZ.out (by omega)
        | (trace_state; fail)
  case rest =>
    obtain ⟨b, k, rfl, hB, hb, hR, hk0, hk1, hrc, hgc⟩ := hcut
    clear HRB HG0 hlw hr0 hl0 p8 p60
    have hlr : r < b := by omega
    obtain ⟨⟨b0, b1, b2⟩, q0, q1, q2⟩ := set_facts hB
    obtain ⟨⟨c0, c1, c2⟩, u0, u1, u2⟩ := set_facts hR
    have HBc := Lib.hid hB
    have HRc := Lib.hid hR
    have HGc := Lib.hid hgc
    clear hB hR hgc
    by_cases k0 : k = 0
    · subst k0
      go_wp2_with fail
      refine (pick_any _ _ _ _ hrc (by omega)).mono ?_
      rintro e w2 ⟨j, rfl, hj0, hj1, hr2, hg2⟩
      go_wp2_with fail
      refine (pick_any _ _ _ _ hr2 (by omega)).mono ?_
      rintro e w3 ⟨i, rfl, hi0, hi1, hr3, hg3⟩
      have g23 := Lib.hid (grownBy_trans hg2 hg3)
      have hB3 := Lib.hid (HBc.out.kept g23.out (by simp; omega))
      have hR3 := Lib.hid (HRc.out.kept g23.out (by simp; omega))
      obtain ⟨⟨b0, b1, b2⟩, q0, q1, q2⟩ := set_facts hB3.out
      have hG2 := Lib.hid (grownBy_trans HGc.out g23.out)
      have hS := Lib.hid (grownBy_set w3 b 1 (.int .i64 (1 + j + i / 19 * 3)))
      have hB4 := Lib.hid (show CellsAt (w3.setCell ⟨b, 1, none⟩ (.int .i64 (1 + j + i / 19 * 3))) b #[.int .i64 0, .int .i64 (1 + j + i / 19 * 3), .string ⟨#[]⟩] 40 from hB3.out.set 1 (.int .i64 (1 + j + i / 19 * 3)))
      have hR4 := Lib.hid (hR3.out.kept hS.out (by simp; omega))
      have hr4 := rd_sets hr3 hS.out (by omega)
      have hG4 := Lib.hid (grown_sets hG2.out hS.out (by omega))
      clear hg2 hg3
      go_wp2_with fail
      refine (odd_any _ _ _ _ hr4 (by omega) (by omega) (by omega)).mono ?_
      rintro e wo ⟨bo, rfl, hro, hgo⟩
      have hBo := Lib.hid (hB4.out.kept hgo (by simp; omega))
      have hRo := Lib.hid (hR4.out.kept hgo (by simp; omega))
      have ggo := Lib.hid (grownBy_trans hG4.out hgo)
      obtain ⟨⟨y0, y1, y2⟩, x0, x1, x2⟩ := set_facts hBo.out
      obtain ⟨⟨t0, t1, t2⟩, v0, v1, v2⟩ := set_facts hRo.out
      cases bo
      · have E := Lib.hid (deed_end (P := P) (K := 0) (N := (1 + j + i / 19 * 3)) (s := ⟨#[]⟩) hRo.out hro (by omega) ggo.out hlt (by first | decide | omega))
        go_wp2_with fail
        exact bodyPost_ret (v := .agg #[.int .i64 0, .int .i64 (1 + j + i / 19 * 3), .string ⟨#[]⟩]) (resDd rfl _ rfl E.out.1) rfl E.out.2
      · have hS2 := Lib.hid (grownBy_set wo b 2 (.string (⟨#[]⟩ ++ ⟨#[120]⟩)))
        have hsz : (⟨#[]⟩ ++ ⟨#[120]⟩ : ByteArray).size ≤ 100 := by rw [ByteArray.size_append]; show (⟨#[]⟩ : ByteArray).size + 1 ≤ 100; first | decide | omega
        have hR2 := Lib.hid (hRo.out.kept hS2.out (by simp; omega))
        obtain ⟨⟨t0', t1', t2'⟩, v0', v1', v2'⟩ := set_facts hR2.out
        have E := Lib.hid (deed_end (P := P) (K := 0) (N := (1 + j + i / 19 * 3)) hR2.out (rd_sets hro hS2.out (by omega)) (by omega) (grown_sets ggo.out hS2.out (by omega)) hlt hsz)
        go_wp2_with fail
        exact bodyPost_ret (v := .agg #[.int .i64 0, .int .i64 (1 + j + i / 19 * 3), .string (⟨#[]⟩ ++ ⟨#[120]⟩)]) (resDd rfl _ rfl E.out.1) rfl E.out.2
    by_cases k1 : k = 1
    · subst k1
      go_wp2_with fail
      refine (true_draw _ _ _ _ hrc (by omega) (by omega) (by omega)).mono ?_
      rintro e w2 ⟨s, rfl, hs, hr2, hg2⟩
      have hB2 := Lib.hid (HBc.out.kept hg2 (by simp; omega))
      have hR2 := Lib.hid (HRc.out.kept hg2 (by simp; omega))
      obtain ⟨⟨b0, b1, b2⟩, q0, q1, q2⟩ := set_facts hB2.out
      have hG2 := Lib.hid (grownBy_trans HGc.out hg2)
      have hS := Lib.hid (grownBy_set w2 b 2 (.string s))
      have hB3 := Lib.hid (show CellsAt (w2.setCell ⟨b, 2, none⟩ (.string s)) b #[.int .i64 1, .int .i64 0, .string s] 40 from hB2.out.set 2 (.string s))
      have hR3 := Lib.hid (hR2.out.kept hS.out (by simp; omega))
      have hr3 := rd_sets hr2 hS.out (by omega)
      have hG3 := Lib.hid (grown_sets hG2.out hS.out (by omega))
      clear hg2
      go_wp2_with fail
      refine (odd_any _ _ _ _ hr3 (by omega) (by omega) (by omega)).mono ?_
      rintro e wo ⟨bo, rfl, hro, hgo⟩
      have hBo := Lib.hid (hB3.out.kept hgo (by simp; omega))
      have hRo := Lib.hid (hR3.out.kept hgo (by simp; omega))
      have ggo := Lib.hid (grownBy_trans hG3.out hgo)
      obtain ⟨⟨y0, y1, y2⟩, x0, x1, x2⟩ := set_facts hBo.out
      obtain ⟨⟨t0, t1, t2⟩, v0, v1, v2⟩ := set_facts hRo.out
      cases bo
      · have E := Lib.hid (deed_end (P := P) (K := 1) (N := 0) (s := s) hRo.out hro (by omega) ggo.out hlt (by omega))
        go_wp2_with fail
        exact bodyPost_ret (v := .agg #[.int .i64 1, .int .i64 0, .string s]) (resDd rfl _ rfl E.out.1) rfl E.out.2
      · have hS2 := Lib.hid (grownBy_set wo b 2 (.string (s ++ ⟨#[120]⟩)))
        have hsz : (s ++ ⟨#[120]⟩ : ByteArray).size ≤ 100 := by rw [ByteArray.size_append]; show s.size + 1 ≤ 100; omega
        have hR2 := Lib.hid (hRo.out.kept hS2.out (by simp; omega))
        obtain ⟨⟨t0', t1', t2'⟩, v0', v1', v2'⟩ := set_facts hR2.out
        have E := Lib.hid (deed_end (P := P) (K := 1) (N := 0) hR2.out (rd_sets hro hS2.out (by omega)) (by omega) (grown_sets ggo.out hS2.out (by omega)) hlt hsz)
        go_wp2_with fail
        exact bodyPost_ret (v := .agg #[.int .i64 1, .int .i64 0, .string (s ++ ⟨#[120]⟩)]) (resDd rfl _ rfl E.out.1) rfl E.out.2
    by_cases k34 : k = 3 ∨ k = 4
    · rcases k34 with rfl | rfl
      · go_wp2_with fail
        refine (pick_any _ _ _ _ hrc (by omega)).mono ?_
        rintro e w1 ⟨j, rfl, hj0, hj1, hr1, hg1⟩
        have hfo : FoOk j 29 36 := by
          obtain rfl | rfl : j = 0 ∨ j = 1 := by omega
          · exact fun w r P h1 h2 => (fo_zero w r P h1 (by omega)).mono fun e w' h3 => h3.up (by omega) (by omega)
          · exact fo_any (.inl rfl)
        go_wp2_with fail
        refine (hfo _ _ _ hr1 (by omega)).mono ?_
        rintro e w2 ⟨s, rfl, _, hs, hr2, hg2⟩
        have g12 := Lib.hid (grownBy_trans hg1 hg2)
        have hB2 := Lib.hid (HBc.out.kept g12.out (by simp; omega))
        have hR2 := Lib.hid (HRc.out.kept g12.out (by simp; omega))
        obtain ⟨⟨b0, b1, b2⟩, q0, q1, q2⟩ := set_facts hB2.out
        have hG2 := Lib.hid (grownBy_trans HGc.out g12.out)
        have hS := Lib.hid (grownBy_set w2 b 2 (.string s))
        have hB3 := Lib.hid (show CellsAt (w2.setCell ⟨b, 2, none⟩ (.string s)) b #[.int .i64 3, .int .i64 0, .string s] 40 from hB2.out.set 2 (.string s))
        have hR3 := Lib.hid (hR2.out.kept hS.out (by simp; omega))
        have hr3 := rd_sets hr2 hS.out (by omega)
        have hG3 := Lib.hid (grown_sets hG2.out hS.out (by omega))
        clear hg1 hg2
        go_wp2_with fail
        refine (odd_any _ _ _ _ hr3 (by omega) (by omega) (by omega)).mono ?_
        rintro e wo ⟨bo, rfl, hro, hgo⟩
        have hBo := Lib.hid (hB3.out.kept hgo (by simp; omega))
        have hRo := Lib.hid (hR3.out.kept hgo (by simp; omega))
        have ggo := Lib.hid (grownBy_trans hG3.out hgo)
        obtain ⟨⟨y0, y1, y2⟩, x0, x1, x2⟩ := set_facts hBo.out
        obtain ⟨⟨t0, t1, t2⟩, v0, v1, v2⟩ := set_facts hRo.out
        cases bo
        · have E := Lib.hid (deed_end (P := P) (K := 3) (N := 0) (s := s) hRo.out hro (by omega) ggo.out hlt (by first | decide | omega))
          go_wp2_with fail
          exact bodyPost_ret (v := .agg #[.int .i64 3, .int .i64 0, .string s]) (resDd rfl _ rfl E.out.1) rfl E.out.2
        · have hS2 := Lib.hid (grownBy_set wo b 2 (.string (s ++ ⟨#[120]⟩)))
          have hsz : (s ++ ⟨#[120]⟩ : ByteArray).size ≤ 100 := by rw [ByteArray.size_append]; show (s : ByteArray).size + 1 ≤ 100; first | decide | omega
          have hR2 := Lib.hid (hRo.out.kept hS2.out (by simp; omega))
          obtain ⟨⟨t0', t1', t2'⟩, v0', v1', v2'⟩ := set_facts hR2.out
          have E := Lib.hid (deed_end (P := P) (K := 3) (N := 0) hR2.out (rd_sets hro hS2.out (by omega)) (by omega) (grown_sets ggo.out hS2.out (by omega)) hlt hsz)
          go_wp2_with fail
          exact bodyPost_ret (v := .agg #[.int .i64 3, .int .i64 0, .string (s ++ ⟨#[120]⟩)]) (resDd rfl _ rfl E.out.1) rfl E.out.2
      · go_wp2_with fail
        refine (pick_any _ _ _ _ hrc (by omega)).mono ?_
        rintro e w1 ⟨j, rfl, hj0, hj1, hr1, hg1⟩
        have hfo : FoOk j 29 36 := by
          obtain rfl | rfl : j = 0 ∨ j = 1 := by omega
          · exact fun w r P h1 h2 => (fo_zero w r P h1 (by omega)).mono fun e w' h3 => h3.up (by omega) (by omega)
          · exact fo_any (.inl rfl)
        go_wp2_with fail
        refine (hfo _ _ _ hr1 (by omega)).mono ?_
        rintro e w2 ⟨s, rfl, _, hs, hr2, hg2⟩
        have g12 := Lib.hid (grownBy_trans hg1 hg2)
        have hB2 := Lib.hid (HBc.out.kept g12.out (by simp; omega))
        have hR2 := Lib.hid (HRc.out.kept g12.out (by simp; omega))
        obtain ⟨⟨b0, b1, b2⟩, q0, q1, q2⟩ := set_facts hB2.out
        have hG2 := Lib.hid (grownBy_trans HGc.out g12.out)
        have hS := Lib.hid (grownBy_set w2 b 2 (.string s))
        have hB3 := Lib.hid (show CellsAt (w2.setCell ⟨b, 2, none⟩ (.string s)) b #[.int .i64 4, .int .i64 0, .string s] 40 from hB2.out.set 2 (.string s))
        have hR3 := Lib.hid (hR2.out.kept hS.out (by simp; omega))
        have hr3 := rd_sets hr2 hS.out (by omega)
        have hG3 := Lib.hid (grown_sets hG2.out hS.out (by omega))
        clear hg1 hg2
        go_wp2_with fail
        refine (odd_any _ _ _ _ hr3 (by omega) (by omega) (by omega)).mono ?_
        rintro e wo ⟨bo, rfl, hro, hgo⟩
        have hBo := Lib.hid (hB3.out.kept hgo (by simp; omega))
        have hRo := Lib.hid (hR3.out.kept hgo (by simp; omega))
        have ggo := Lib.hid (grownBy_trans hG3.out hgo)
        obtain ⟨⟨y0, y1, y2⟩, x0, x1, x2⟩ := set_facts hBo.out
        obtain ⟨⟨t0, t1, t2⟩, v0, v1, v2⟩ := set_facts hRo.out
        cases bo
        · have E := Lib.hid (deed_end (P := P) (K := 4) (N := 0) (s := s) hRo.out hro (by omega) ggo.out hlt (by first | decide | omega))
          go_wp2_with fail
          exact bodyPost_ret (v := .agg #[.int .i64 4, .int .i64 0, .string s]) (resDd rfl _ rfl E.out.1) rfl E.out.2
        · have hS2 := Lib.hid (grownBy_set wo b 2 (.string (s ++ ⟨#[120]⟩)))
          have hsz : (s ++ ⟨#[120]⟩ : ByteArray).size ≤ 100 := by rw [ByteArray.size_append]; show (s : ByteArray).size + 1 ≤ 100; first | decide | omega
          have hR2 := Lib.hid (hRo.out.kept hS2.out (by simp; omega))
          obtain ⟨⟨t0', t1', t2'⟩, v0', v1', v2'⟩ := set_facts hR2.out
          have E := Lib.hid (deed_end (P := P) (K := 4) (N := 0) hR2.out (rd_sets hro hS2.out (by omega)) (by omega) (grown_sets ggo.out hS2.out (by omega)) hlt hsz)
          go_wp2_with fail
          exact bodyPost_ret (v := .agg #[.int .i64 4, .int .i64 0, .string (s ++ ⟨#[120]⟩)]) (resDd rfl _ rfl E.out.1) rfl E.out.2
    have f0 : (k == 0) = false := beq_false_of_ne k0
    have f1 : (k == 1) = false := beq_false_of_ne k1
    have f3 : (k == 3) = false := beq_false_of_ne fun e => k34 (.inl e)
    have f4 : (k == 4) = false := beq_false_of_ne fun e => k34 (.inr e)
    clear k0 k1 k34
    go_wp2_with fail
    refine (odd_any _ _ _ _ hrc (by omega) (by omega) (by omega)).mono ?_
    rintro e wo ⟨bo, rfl, hro, hgo⟩
    have hBo := Lib.hid (HBc.out.kept hgo (by simp; omega))
    have hRo := Lib.hid (HRc.out.kept hgo (by simp; omega))
    have ggo := Lib.hid (grownBy_trans HGc.out hgo)
    obtain ⟨⟨y0, y1, y2⟩, x0, x1, x2⟩ := set_facts hBo.out
    obtain ⟨⟨t0, t1, t2⟩, v0, v1, v2⟩ := set_facts hRo.out
    cases bo
    · have E := Lib.hid (deed_end (P := P) (K := k) (N := 0) (s := ⟨#[]⟩) hRo.out hro (by omega) ggo.out hlt (by first | decide | omega))
      go_wp2_with fail
      exact bodyPost_ret (v := .agg #[.int .i64 k, .int .i64 0, .string ⟨#[]⟩]) (resDd rfl _ rfl E.out.1) rfl E.out.2
    · have hS2 := Lib.hid (grownBy_set wo b 2 (.string (⟨#[]⟩ ++ ⟨#[120]⟩)))
      have hsz : (⟨#[]⟩ ++ ⟨#[120]⟩ : ByteArray).size ≤ 100 := by rw [ByteArray.size_append]; show (⟨#[]⟩ : ByteArray).size + 1 ≤ 100; first | decide | omega
      have hR2 := Lib.hid (hRo.out.kept hS2.out (by simp; omega))
      obtain ⟨⟨t0', t1', t2'⟩, v0', v1', v2'⟩ := set_facts hR2.out
      have E := Lib.hid (deed_end (P := P) (K := k) (N := 0) hR2.out (rd_sets hro hS2.out (by omega)) (by omega) (grown_sets ggo.out hS2.out (by omega)) hlt hsz)
      go_wp2_with fail
      exact bodyPost_ret (v := .agg #[.int .i64 k, .int .i64 0, .string (⟨#[]⟩ ++ ⟨#[120]⟩)]) (resDd rfl _ rfl E.out.1) rfl E.out.2

end Go.Proofs.YtlnffpofbfigaaaGreatDoor

/-
  Deeds counted and copied; desks with rows marked and read again.
-/
namespace Go.Proofs.YtlnffpofbfigaaaGreatDoor
open Go.RowKit

set_option maxHeartbeats 1000000 in
theorem markLds_zero (a : Option Addr) (cap : Nat) (k : Int) (w : World) :
    Calls Tryz.prog 87 #[.slice a 0 cap, .int .i64 k] w fun e w' => e = .returned (.int .i64 k) ∧ w = w' := by
  go_enter Tryz.func87, Tryz.ntmps87
  go_wp2
  go_loopw [1, 5] (fun kv iv wr => kv = .int .i64 k ∧ iv = .int .i64 0 ∧ w = wr) (fun _ _ _ => 0)
  case atStart => exact ⟨rfl, rfl, rfl⟩
  case round =>
    obtain ⟨rfl, rfl, rfl⟩ := hrel
    go_wp2
    go_ret
    exact ⟨rfl, rfl⟩

/-- What is left of a row that was marked: its pairs; nothing else changed but its own block. -/
def MarkedD (a : Option Addr) (k n : Nat) (w w' : World) : Prop := LdsAt w' a (mkRow k n) ∧ ∃ row : Option Nat, (∀ g, row = some g → 0 < n ∧ ∃ x, a = some x ∧ x.block = g) ∧ w.grownBy w' row

set_option maxHeartbeats 1000000 in
theorem markDk_any (m : Int) (t : ByteArray) (k base cap : Nat) (a : Option Addr) (xs : List Ld) (hk : 0 < k ∧ k ≤ 10000000) (hn : xs.length ≤ 10000000) (w : World) (h : OwnL w base a xs) :
    Calls Tryz.prog 31 #[.agg #[.int .i64 m, .string t, .slice a xs.length cap], .int .i64 k] w fun e w' => e = .returned (.int .i64 ((k + 2 * xs.length : Nat) : Int)) ∧ MarkedD a k xs.length w w' := by
  have h2 := h.kept (World.grownBy_alloc w (.cells #[.int .i64 m, .string t, .slice a xs.length cap] 32) none)
  have G0 := Lib.hid (fun row => World.grownBy_alloc w (.cells #[.int .i64 m, .string t, .slice a xs.length cap] 32) row)
  have cm : ∀ W, OwnL W base a xs → Calls Tryz.prog 87 #[.slice a xs.length cap, .int .i64 k] W fun e w' => e = .returned (.int .i64 ((k + 2 * xs.length : Nat) : Int)) ∧ MarkedD a k xs.length W w' := by
    intro W hW
    by_cases h0 : xs = []
    · subst h0
      refine (markLds_zero a cap k W).mono ?_
      rintro e w' ⟨rfl, rfl⟩
      exact ⟨by simp, LdsAt.nil _ _, none, by simp, grownBy_refl _ _⟩
    · obtain ⟨g, off, cur, rfl, hb, hg, hc⟩ := hW.2.resolve_left h0
      have hpos : 0 < xs.length := List.length_pos_iff.2 h0
      refine (markLds_any k xs.length g off cap cur hk hn W hg ⟨fun j hj => absurd hj (by omega), fun j _ hj => ⟨_, _, hc j hj⟩⟩).mono ?_
      rintro e w' ⟨cur', rfl, h1, h2, h3⟩
      refine ⟨rfl, ?_, some g, fun q hq => ?_, h3⟩
      · refine OwnL.at (base := 0) ⟨by rw [mkRow_len]; exact hW.1, .inr ⟨g, off, cur', rfl, Nat.zero_le _, h1, fun i hi => ?_⟩⟩
        rw [mkRow_len] at hi
        rw [mkRow_at k _ i hi]
        exact h2.1 i hi
      · cases hq
        exact ⟨hpos, _, rfl, rfl⟩
  clear h
  go_enter Tryz.func31, Tryz.ntmps31
  go_wp2_with (first | (go_at_call 87; refine (cm _ h2).mono ?_; rintro e w' ⟨rfl, hM⟩))
  go_ret
  obtain ⟨row, hr, hg⟩ := hM.2
  exact ⟨rfl, hM.1, row, hr, grownBy_trans (G0.out _) hg⟩

set_option maxHeartbeats 1000000 in
theorem heldDk_any (m : Int) (t : ByteArray) (k n cap : Nat) (a : Option Addr) (hk : 0 < k ∧ k ≤ 10000000) (hn : n ≤ 10000000) (w : World) (h : LdsAt w a (mkRow k n)) :
    Calls Tryz.prog 32 #[.agg #[.int .i64 m, .string t, .slice a n cap], .int .i64 k] w fun e w' => e = .returned (.int .i64 ((k + 2 * n : Nat) : Int)) ∧ w.grownBy w' none := by
  have g0 := World.grownBy_alloc w (.cells #[.int .i64 m, .string t, .slice a n cap] 32) none
  have h2 := h.grown g0
  have hp : ¬ ((k + 2 * n : Nat) : Int) < 0 := by omega
  clear h
  go_enter Tryz.func32, Tryz.ntmps32
  go_wp2_with (first | (go_at_call 88; refine (heldLds_any k n cap a hk hn _ h2).mono ?_; rintro e w' ⟨rfl, hM⟩))
  all_goals go_ret
  all_goals exact ⟨rfl, grownBy_trans g0 hM⟩

end Go.Proofs.YtlnffpofbfigaaaGreatDoor

/-
  Rows of deeds: what lies in them; rows that a call made.
-/
namespace Go.Proofs.YtlnffpofbfigaaaGreatDoor
open Go.RowKit

def nilDd : Dd := (0, 0, [])
/-- The cells of a row of deeds. -/
def ddC : List Dd → List Value
  | [] => []
  | x :: l => .int .i64 x.1 :: .int .i64 x.2.1 :: .string (bs x.2.2) :: ddC l
theorem ddC_len : ∀ l : List Dd, (ddC l).length = l.length * 3
  | [] => rfl
  | x :: l => by show (ddC l).length + 1 + 1 + 1 = (l.length + 1) * 3; rw [ddC_len l]; omega
theorem ddC_app : ∀ l m : List Dd, ddC (l ++ m) = ddC l ++ ddC m
  | [], m => rfl
  | x :: l, m => by show _ :: _ :: _ :: ddC (l ++ m) = _; rw [ddC_app l m]; rfl
theorem ddC_at : ∀ (l : List Dd) (i : Nat), i < l.length → (ddC l)[i * 3]? = some (.int .i64 (l.getD i nilDd).1) ∧ (ddC l)[i * 3 + 1]? = some (.int .i64 (l.getD i nilDd).2.1) ∧ (ddC l)[i * 3 + 2]? = some (.string (bs (l.getD i nilDd).2.2))
  | [], i, h => absurd h (by simp)
  | x :: l, 0, _ => ⟨rfl, rfl, rfl⟩
  | x :: l, i + 1, h => by
    have := ddC_at l i (by simpa using h)
    rw [show (i + 1) * 3 = i * 3 + 1 + 1 + 1 by omega]
    exact this
theorem ddC_one : ∀ (l : List Dd), ∀ u ∈ ddC l, u.oneCell' = true
  | [], u, h => absurd h (by simp [ddC])
  | x :: l, u, h => by
    rcases List.mem_cons.1 h with rfl | h
    · rfl
    · rcases List.mem_cons.1 h with rfl | h
      · rfl
      · rcases List.mem_cons.1 h with rfl | h
        · rfl
        · exact ddC_one l u h
/-- A row of deeds as it can be read. -/
def DdsAt (w : World) (a : Option Addr) (xs : List Dd) : Prop :=
  xs.length ≤ maxLen ∧ (xs = [] ∨ ∃ b off, a = some ⟨b, off, none⟩ ∧ b < w.heap.size ∧ ∀ i, i < xs.length → w.cell? ⟨b, off + i * 3, none⟩ = some (.int .i64 (xs.getD i nilDd).1) ∧ w.cell? ⟨b, off + i * 3 + 1, none⟩ = some (.int .i64 (xs.getD i nilDd).2.1) ∧ w.cell? ⟨b, off + i * 3 + 2, none⟩ = some (.string (bs (xs.getD i nilDd).2.2)))
theorem DdsAt.kept {w w' : World} {a : Option Addr} {xs : List Dd} {row : Option Nat} (h : DdsAt w a xs) (hg : w.grownBy w' row) (hne : ∀ x, a = some x → some x.block ≠ row) : DdsAt w' a xs := by
  refine ⟨h.1, ?_⟩
  rcases h.2 with h | ⟨b, off, ha, hb, hc⟩
  · exact .inl h
  · exact .inr ⟨b, off, ha, Nat.lt_of_lt_of_le hb hg.size, fun i hi => ⟨(World.cell?_of_block (w := w) (a := ⟨b, off + i * 3, none⟩) (hg.block b hb (hne _ ha))).trans (hc i hi).1, (World.cell?_of_block (w := w) (a := ⟨b, off + i * 3 + 1, none⟩) (hg.block b hb (hne _ ha))).trans (hc i hi).2.1, (World.cell?_of_block (w := w) (a := ⟨b, off + i * 3 + 2, none⟩) (hg.block b hb (hne _ ha))).trans (hc i hi).2.2⟩⟩
theorem DdsAt.grown {w w' : World} {a : Option Addr} {xs : List Dd} (h : DdsAt w a xs) (hg : w.grownBy w' none) : DdsAt w' a xs := h.kept hg (by simp)
theorem DdsAt.nil (w : World) (a : Option Addr) : DdsAt w a [] := ⟨by simp, .inl rfl⟩
theorem DdsAt.take {w : World} {a : Option Addr} {xs : List Dd} (h : DdsAt w a xs) (n : Nat) : DdsAt w a (xs.take n) := by
  refine ⟨Nat.le_trans (by rw [List.length_take]; omega) h.1, ?_⟩
  rcases h.2 with h | ⟨b, off, ha, hb, hc⟩
  · exact .inl (by rw [h, List.take_nil])
  · refine .inr ⟨b, off, ha, hb, fun i hi => ?_⟩
    rw [List.length_take] at hi
    have e : (xs.take n).getD i nilDd = xs.getD i nilDd := by
      rw [List.getD_eq_getElem?_getD, List.getD_eq_getElem?_getD, List.getElem?_take, if_pos (by omega)]
    rw [e]
    exact hc i (by omega)
theorem DdsAt.drop {w : World} {b off : Nat} {xs : List Dd} (h : DdsAt w (some ⟨b, off, none⟩) xs) (n : Nat) : DdsAt w (some ⟨b, off + n * 3, none⟩) (xs.drop n) := by
  refine ⟨Nat.le_trans (by rw [List.length_drop]; omega) h.1, ?_⟩
  rcases h.2 with h | ⟨b', off', ha, hb, hc⟩
  · exact .inl (by rw [h, List.drop_nil])
  · cases ha
    refine .inr ⟨b, off + n * 3, rfl, hb, fun i hi => ?_⟩
    rw [List.length_drop] at hi
    have e : (xs.drop n).getD i nilDd = xs.getD (n + i) nilDd := by
      rw [List.getD_eq_getElem?_getD, List.getD_eq_getElem?_getD, List.getElem?_drop]
    have k := hc (n + i) (by omega)
    rw [show off + (n + i) * 3 = off + n * 3 + i * 3 by omega] at k
    rw [e]
    exact k

/-- A row of deeds that the call owns, from its block's first cell on. -/
def Own3 (w : World) (base : Nat) (a : Option Addr) (cap : Nat) (xs : List Dd) : Prop :=
  w.ownsRow base 40 3 (.slice a xs.length cap) xs.length (ddC xs)
theorem own3_shape {w : World} {base n : Nat} {v : Value} {zs : List Dd} (h : w.ownsRow base 40 3 v n (ddC zs)) : ∃ a cap, v = .slice a zs.length cap ∧ n = zs.length ∧ Own3 w base a cap zs := by
  have hl := h.1
  rw [ddC_len] at hl
  obtain rfl : n = zs.length := by omega
  rcases h.2 with ⟨rfl, h0⟩ | ⟨g, cap, cur, rfl, h1⟩
  · exact ⟨none, 0, by rw [h0], rfl, by unfold Own3; rw [h0]; rw [h0] at h; exact h⟩
  · exact ⟨some ⟨g, 0, none⟩, cap, rfl, rfl, h⟩
theorem Own3.nil (w : World) (base : Nat) : Own3 w base none 0 [] := World.ownsRow_nil _ _ _ _
theorem Own3.made (w : World) : Own3 (w.alloc (.cells #[] 40)) w.heap.size (some ⟨w.heap.size, 0, none⟩) 0 [] := World.ownsRow_made w #[] 0 (Nat.le_refl _) (Nat.zero_le _) rfl
theorem Own3.kept {w w' : World} {base : Nat} {a : Option Addr} {cap : Nat} {zs : List Dd} (h : Own3 w base a cap zs) (hg : w.grownBy w' none) : Own3 w' base a cap zs :=
  World.ownsRow.kept h hg (by cases (Value.slice a zs.length cap).ownBlock <;> simp)
theorem Own3.past {w w' : World} {base b : Nat} {a : Option Addr} {cap : Nat} {zs : List Dd} (h : Own3 w base a cap zs) (hg : w.grownBy w' (some b)) (hb : b < base) : Own3 w' base a cap zs :=
  World.ownsRow.kept h hg (.inr fun e => by have := World.ownsRow.lt h _ e; omega)
theorem Own3.bare {w : World} {base : Nat} {a : Option Addr} {cap : Nat} {zs : List Dd} (h : Own3 w base a cap zs) : a = none → cap = 0 := by
  intro e
  subst e
  rcases h.2 with ⟨h0, _⟩ | ⟨g, c, cur, he, _⟩
  · simp only [Value.slice.injEq] at h0; exact h0.2.2
  · simp at he
theorem Own3.room {w : World} {base : Nat} {a : Option Addr} {cap : Nat} {zs : List Dd} (h : Own3 w base a cap zs) : zs.length ≤ cap ∧ cap ≤ maxLen := by
  rcases h.2 with ⟨h0, h1⟩ | ⟨g, c, cur, he, _, _, hn, hc, _⟩
  · simp only [Value.slice.injEq] at h0
    rw [h1, h0.2.2]; exact ⟨Nat.le_refl _, Nat.zero_le _⟩
  · simp only [Value.slice.injEq, true_and] at he
    rw [he.2]; exact ⟨hn, hc⟩
theorem Own3.mono {w : World} {base base' : Nat} {a : Option Addr} {cap : Nat} {zs : List Dd} (h : Own3 w base a cap zs) (hb : base' ≤ base) : Own3 w base' a cap zs := by
  refine ⟨h.1, ?_⟩
  rcases h.2 with h | ⟨g, c, cur, h1, h2, h3⟩
  · exact .inl h
  · exact .inr ⟨g, c, cur, h1, Nat.le_trans hb h2, h3⟩
theorem Own3.curs {w : World} {base : Nat} {a : Option Addr} {cap : Nat} {zs : List Dd} (h : Own3 w base a cap zs) : zs = [] ∨ ∃ (g : Nat) (cur : Array Value), a = some ⟨g, 0, none⟩ ∧ base ≤ g ∧ w.heap[g]? = some (.cells cur 40 (0, 0)) ∧ ∀ i, i < zs.length → cur[i * 3]? = some (.int .i64 (zs.getD i nilDd).1) ∧ cur[i * 3 + 1]? = some (.int .i64 (zs.getD i nilDd).2.1) ∧ cur[i * 3 + 2]? = some (.string (bs (zs.getD i nilDd).2.2)) := by
  rcases h.2 with ⟨_, h0⟩ | ⟨g, c, cur, he, hb, hg, hnc, hcm, hcs, htake⟩
  · exact .inl (List.length_eq_zero_iff.1 h0)
  · simp only [Value.slice.injEq, true_and] at he
    obtain ⟨rfl, rfl⟩ := he
    refine .inr ⟨g, cur, rfl, hb, hg, fun i hi => ?_⟩
    have k := ddC_at zs i hi
    rw [← htake, List.getElem?_take, if_pos (by omega), List.getElem?_take, if_pos (by omega), List.getElem?_take, if_pos (by omega)] at k
    simpa using k
theorem Own3.at {w : World} {base : Nat} {a : Option Addr} {cap : Nat} {zs : List Dd} (h : Own3 w base a cap zs) : DdsAt w a zs := by
  refine ⟨Nat.le_trans h.room.1 h.room.2, ?_⟩
  rcases h.curs with h | ⟨g, cur, ha, hb, hg, hc⟩
  · exact .inl h
  · refine .inr ⟨g, 0, ha, (Array.getElem?_eq_some_iff.1 hg).1, fun i hi => ?_⟩
    rw [cell_of_row w g _ cur _ (0, 0) hg, cell_of_row w g _ cur _ (0, 0) hg, cell_of_row w g _ cur _ (0, 0) hg, Nat.zero_add]
    exact hc i hi

theorem infoDd : (Tryz.prog.info? 40).map (fun i => (i.zero, i.size, i.bytes)) = some (some (.agg #[.int .i64 0, .int .i64 0, .string ⟨#[]⟩]), 3, 32) := by kernel_rfl

end Go.Proofs.YtlnffpofbfigaaaGreatDoor

/-
  Rows of deeds counted, copied and compared: the laws' szDeedS, toDeedS, eqDeedS.
-/
namespace Go.Proofs.YtlnffpofbfigaaaGreatDoor
open Go.RowKit

end Go.Proofs.YtlnffpofbfigaaaGreatDoor

/-
  The draws of chapter 12: deeds.
-/
namespace Go.Proofs.YtlnffpofbfigaaaGreatDoor
open Go.RowKit

theorem Own3.way {w : World} {base : Nat} {a : Option Addr} {cap : Nat} {zs : List Dd} (h : Own3 w base a cap zs) : (a = none ∧ zs = []) ∨ ∃ g, a = some ⟨g, 0, none⟩ := by
  rcases h.2 with ⟨h0, h1⟩ | ⟨g, c, cur, he, _⟩
  · simp only [Value.slice.injEq] at h0
    exact .inl ⟨h0.1, List.length_eq_zero_iff.1 h1⟩
  · simp only [Value.slice.injEq] at he
    exact .inr ⟨g, he.1⟩

end Go.Proofs.YtlnffpofbfigaaaGreatDoor

/-
  Deeds one after the other: DeskRun, the program's and the model's.
-/
namespace Go.Proofs.YtlnffpofbfigaaaGreatDoor
open Go.RowKit

theorem OwnL.put3 {W : World} {base b : Nat} {a : Option Addr} {xs : List Ld} (o : OwnL W base a xs) (hB : DkB W b) (p q t : Value) : OwnL (((W.setCell ⟨b, 0, none⟩ p).setCell ⟨b, 1, none⟩ q).setCell ⟨b, 2, none⟩ t) base a xs := o.beside hB (put3_past W b p q t)
theorem dk_facts {W : World} {b : Nat} {u v x : Value} (h : CellsAt W b #[u, v, x] 32) : (W.cell? ⟨b, 0, none⟩ = some u ∧ W.cell? ⟨b, 1, none⟩ = some v ∧ W.cell? ⟨b, 2, none⟩ = some x) ∧ W.frozen? ⟨b, 0, none⟩ = false ∧ W.frozen? ⟨b, 1, none⟩ = false ∧ W.frozen? ⟨b, 2, none⟩ = false := ⟨h.three, h.frozen 0, h.frozen 1, h.frozen 2⟩

theorem zero_1 {W W' : World} (hg : (W.alloc (.cells #[.int .i64 0, .string ⟨#[]⟩, .slice none 0 0] 32)).grownBy W' none) : CellsAt W' W.heap.size #[.int .i64 0, .string ⟨#[]⟩, .slice none 0 0] 32 := (CellsAt.new W _ _).grown hg
/-- A variable with a desk that was answered, and a value beside it. -/
def GotV (W : World) (m : Int) (s : List UInt8) (xs : List Ld) (v0 p v : Value) (wc : World) : Prop :=
  ∃ (b : Nat) (a : Option Addr) (cap : Nat), p = .pointer (some ⟨b, 0, none⟩) ∧ v = v0 ∧ W.heap.size ≤ b ∧ CellsAt wc b #[.int .i64 m, .string (bs s), .slice a xs.length cap] 32 ∧ OwnL wc W.heap.size a xs ∧ (a = none → cap = 0) ∧ W.grownBy wc none
theorem gotV_new {W wc : World} {m : Int} {s : List UInt8} {xs : List Ld} {v0 : Value} {a : Option Addr} {cap base : Nat} (ho : OwnL wc base a xs) (hz : a = none → cap = 0) (hb : W.heap.size ≤ base) (hg : W.grownBy wc none) :
    GotV W m s xs v0 (.pointer (some ⟨wc.heap.size, 0, none⟩)) v0 (wc.alloc (.cells #[.int .i64 m, .string (bs s), .slice a xs.length cap] 32)) :=
  ⟨_, a, cap, rfl, rfl, hg.size, CellsAt.new wc _ _, (ho.kept (World.grownBy_alloc _ _ none)).mono hb, hz, grownBy_trans hg (World.grownBy_alloc _ _ none)⟩
theorem gotV_old {W wc : World} {m : Int} {s : List UInt8} {xs : List Ld} {v0 : Value} {a : Option Addr} {cap base b : Nat} {x y z : Value} (ho : OwnL wc base a xs) (hz : a = none → cap = 0) (hb : W.heap.size ≤ base) (hg : W.grownBy wc none) (hB : CellsAt wc b #[x, y, z] 32) (hw : W.heap.size ≤ b) :
    GotV W m s xs v0 (.pointer (some ⟨b, 0, none⟩)) v0 (((wc.setCell ⟨b, 0, none⟩ (.int .i64 m)).setCell ⟨b, 1, none⟩ (.string (bs s))).setCell ⟨b, 2, none⟩ (.slice a xs.length cap)) :=
  ⟨b, a, cap, rfl, rfl, hw, hB.put3 _ _ _, (ho.beside ⟨_, hB⟩ (put3_past wc b _ _ _)).mono hb, hz, put3_grown b hg hw _ _ _⟩
theorem lastS4 {a b c d : Prop} (h : a ∧ b ∧ c ∧ d) : d := h.2.2.2
theorem sizeS4 {a b c : Prop} {W W' : World} {row : Option Nat} (h : a ∧ b ∧ c ∧ W.grownBy W' row) : W.heap.size ≤ W'.heap.size := h.2.2.2.size

end Go.Proofs.YtlnffpofbfigaaaGreatDoor

/-
  The draws of chapter 12: a desk.
-/
namespace Go.Proofs.YtlnffpofbfigaaaGreatDoor
open Go.RowKit

/-- A deed was drawn and done: what lies where ahead of what becomes of it. -/
def XGot (w0 : World) (b r Q : Nat) (m : Int) (s : List UInt8) (a : Option Addr) (cap : Nat) (xs : List Ld) (pv bv : Value) (wc : World) : Prop :=
  ∃ (c : Nat) (m2 : Int) (s2 : List UInt8) (xs2 : List Ld) (ok : Bool) (a2 : Option Addr) (cap2 : Nat), pv = .pointer (some ⟨c, 0, none⟩) ∧ bv = .bool ok ∧ BaseD w0 b r Q wc (.int .i64 m) (.string (bs s)) (.slice a xs.length cap) ∧ Own2 wc w0.heap.size a cap xs ∧ CellsAt wc c #[.int .i64 m2, .string (bs s2), .slice a2 xs2.length cap2] 32 ∧ (ok = true → xs2.length ≤ xs.length + 1 ∧ Own2 wc w0.heap.size a2 cap2 xs2) ∧ w0.heap.size < c ∧ c ≠ b
theorem XGot.new {w0 W : World} {b r Q : Nat} {m m2 : Int} {s s2 : List UInt8} {a a2 : Option Addr} {cap cap2 : Nat} {xs xs2 : List Ld} {ok : Bool} (h : BaseD w0 b r Q W (.int .i64 m) (.string (bs s)) (.slice a xs.length cap)) (o : Own2 W w0.heap.size a cap xs) (k : ok = true → xs2.length ≤ xs.length + 1 ∧ Own2 W w0.heap.size a2 cap2 xs2) :
    XGot w0 b r Q m s a cap xs (.pointer (some ⟨W.heap.size, 0, none⟩)) (.bool ok) (W.alloc (.cells #[.int .i64 m2, .string (bs s2), .slice a2 xs2.length cap2] 32)) :=
  ⟨_, m2, s2, xs2, ok, a2, cap2, rfl, rfl, h.alloc _, o.kept (World.grownBy_alloc _ _ none), CellsAt.new W _ _, fun e => ⟨(k e).1, (k e).2.kept (World.grownBy_alloc _ _ none)⟩, h.2.1.lt, by have := h.1.lt; omega⟩
theorem XGot.old {w0 W : World} {b c r Q : Nat} {m m2 : Int} {s s2 : List UInt8} {a a2 : Option Addr} {cap cap2 : Nat} {xs xs2 : List Ld} {ok : Bool} {x y z : Value} (h : BaseD w0 b r Q W (.int .i64 m) (.string (bs s)) (.slice a xs.length cap)) (o : Own2 W w0.heap.size a cap xs) (k : ok = true → xs2.length ≤ xs.length + 1 ∧ Own2 W w0.heap.size a2 cap2 xs2) (hz : CellsAt W c #[x, y, z] 32) (hc : w0.heap.size < c) (hne : c ≠ b) (hr : r < w0.heap.size) :
    XGot w0 b r Q m s a cap xs (.pointer (some ⟨c, 0, none⟩)) (.bool ok) (((W.setCell ⟨c, 0, none⟩ (.int .i64 m2)).setCell ⟨c, 1, none⟩ (.string (bs s2))).setCell ⟨c, 2, none⟩ (.slice a2 xs2.length cap2)) :=
  ⟨c, m2, s2, xs2, ok, a2, cap2, rfl, rfl, h.aside hc hne hr _ _ _, o.put3 (dkB_at hz) _ _ _, hz.put3 _ _ _, fun e => ⟨(k e).1, (k e).2.put3 (dkB_at hz) _ _ _⟩, hc, hne⟩

set_option maxRecDepth 8000 in
set_option maxHeartbeats 16000000 in
theorem desk_draw (HD : DeedC) (n : Int) (w : World) (r P : Nat) (hr : Rd w r P) (hP : P ≤ 40000) (hn : 1 ≤ n) (hn2 : n ≤ 1000) :
    Calls Tryz.prog 46 #[.pointer (some ⟨r, 0, none⟩), .int .i64 n] w (DDPost r P w) := by
  unfold DeedC at HD
  have hlt := hr.lt
  have hr0 := hr.alloc (.cells #[.int .i64 0, .string ⟨#[]⟩, .slice none 0 0] 32)
  go_enter Tryz.func46, Tryz.ntmps46
  go_wp2_with fail
  have hRB := CellsAt.new w #[.int .i64 0, .string ⟨#[]⟩, .slice none 0 0] 32
  have hg0 := World.grownBy_alloc w (.cells #[.int .i64 0, .string ⟨#[]⟩, .slice none 0 0] 32) (some r)
  generalize w.alloc (.cells #[.int .i64 0, .string ⟨#[]⟩, .slice none 0 0] 32) = W0 at *
  refine (pick_any _ _ _ _ hr0 (by omega)).mono ?_
  rintro e w1 ⟨i, rfl, hi0, hi1, hr1, hg1⟩
  go_wp2_with fail
  have hin : inB (1 + i) 1 6 = true := inB_t (by omega)
  have cn := snew_any (1 + i) w1
  have e1 : newK (1 + i) = ((1 + i, [97]), []) := by unfold newK; rw [hin]; rfl
  rw [hin, e1] at cn
  unfold dkV at cn
  refine cn.mono ?_
  rintro e w2 ⟨rfl, hg2⟩
  have g02 := grownBy_trans hg0 (grownBy_trans hg1 (grown_none hg2))
  have hR2 := (hRB.kept hg1 (by simp; omega)).grown hg2
  have hr2 := hr1.grown hg2
  have hA := CellsAt.new w2 #[.int .i64 (1 + i), .string (bs [97]), .slice none ([] : List Ld).length 0] 32
  clear hRB hg0 hg1 hg2 hr0 hr1 cn hin e1
  have hbs : bs [97] = ⟨#[97]⟩ := rfl
  rw [hbs] at hA
  have hgA := World.grownBy_alloc w2 (.cells #[.int .i64 (1 + i), .string ⟨#[97]⟩, .slice none ([] : List Ld).length 0] 32) none
  have hb0 : w.heap.size < w2.heap.size := hR2.lt
  go_wp2_with fail
  change Calls _ _ _ (w2.alloc (.cells #[.int .i64 (1 + i), .string ⟨#[97]⟩, .slice none ([] : List Ld).length 0] 32)) _
  generalize w2.alloc (.cells #[.int .i64 (1 + i), .string ⟨#[97]⟩, .slice none ([] : List Ld).length 0] 32) = W3 at *
  have hR3 := hR2.grown hgA
  have hr3 := hr2.grown hgA
  have g03 := grownBy_trans g02 (grown_none hgA)
  generalize hbb : w2.heap.size = b at *
  clear hR2 hr2 g02 hgA hbb hbs
  refine (pick_any _ _ _ _ hr3 (by omega)).mono ?_
  rintro e w4 ⟨j0, rfl, hj0, hj1, hr4, hg4⟩
  obtain ⟨j0, rfl⟩ := Int.eq_ofNat_of_zero_le hj0
  have hInit : Hid (DkL w b r P (.int .i64 (j0 : Int)) w4) := ⟨j0, ((1 + i, [97]), []), none, 0, rfl, by omega, by simp; omega, hA.kept hg4 (by simp; omega), Own2.nil _ _, hr4.mono (by omega), grownBy_trans g03 hg4, hR3.kept hg4 (by simp; omega)⟩
  clear hA hR3 hr3 g03 hr4 hg4
  go_wp2_with fail
  go_loopw [7] (fun k wr => DkL w b r P k wr) (fun k _ => (intOf k).toNat)
  case atStart => exact hInit.out
  case round =>
    obtain ⟨j, d, a, cap, rfl, hj5, hdj, hBd, ho, hrr, hgw, hR⟩ := hrel
    obtain ⟨⟨m, s⟩, xs⟩ := d
    have hlrb : r < b := by omega
    obtain ⟨⟨d0, d1, d2⟩, f0, f1, f2⟩ := three_facts hBd
    by_cases hz : j = 0
    · subst hz
      have hx5 : xs.length ≤ 5 := hdj
      go_wp2_with fail
      refine (odd_any _ _ _ _ hrr (by omega) hn hn2).mono ?_
      rintro e wo ⟨bo, rfl, hro, hgo⟩
      have BB := Lib.hid (show BaseD w b r (P + 502 - 0 * 100 + 1) wo (.int .i64 m) (.string (bs s)) (.slice a xs.length cap) from ⟨hBd.kept hgo (by simp; omega), hR.kept hgo (by simp; omega), hro, grownBy_trans hgw hgo⟩)
      have OO := Lib.hid (ho.past hgo (by omega))
      obtain ⟨⟨d0, d1, d2⟩, f0, f1, f2⟩ := three_facts BB.out.1
      obtain ⟨⟨z0, z1, z2⟩, y0, y1, y2⟩ := three_facts BB.out.2.1
      clear hBd ho hR hgw hgo hrr
      cases bo
      · have E := Lib.hid (desk_end (P := P) BB.out OO.out rfl hlt (by omega))
        go_wp2_with fail
        exact bodyPost_ret (v := .agg #[.int .i64 m, .string (bs s), .slice a xs.length cap]) (resDk rfl _ rfl E.out.1) rfl E.out.2
      · go_wp2_with fail
        refine (pick_any _ _ _ _ hro (by omega)).mono ?_
        rintro e wp ⟨kp, rfl, hp0, hp1, hrp, hgp⟩
        have BP := Lib.hid (show BaseD w b r (P + 502 - 0 * 100 + 1 + 1) wp (.int .i64 m) (.string (bs s)) (.slice a xs.length cap) from ⟨BB.out.1.kept hgp (by simp; omega), BB.out.2.1.kept hgp (by simp; omega), hrp, grownBy_trans BB.out.2.2.2 hgp⟩)
        have OP := Lib.hid (OO.out.past hgp (by omega))
        obtain ⟨⟨d0, d1, d2⟩, f0, f1, f2⟩ := three_facts BP.out.1
        obtain ⟨⟨z0, z1, z2⟩, y0, y1, y2⟩ := three_facts BP.out.2.1
        have lbp := BP.out.1.lt
        have lhp := BP.out.2.1.lt
        clear hgp
        obtain rfl | rfl | rfl : kp = 0 ∨ kp = 1 ∨ kp = 2 := by omega
        · have B1 := Lib.hid (show BaseD w b r (P + 502 - 0 * 100 + 1 + 1) (wp.setCell ⟨b, 0, none⟩ (.int .i64 0)) (.int .i64 0) (.string (bs s)) (.slice a xs.length cap) from ⟨BP.out.1.set 0 (.int .i64 0), BP.out.set (by omega) hlt 0 _⟩)
          obtain ⟨⟨t0, t1, t2⟩, v0, v1, v2⟩ := three_facts B1.out.2.1
          have E := Lib.hid (desk_end (P := P) B1.out (OP.out.beside ⟨_, BP.out.1⟩ (grownBy_set wp b 0 _)) rfl hlt (by omega))
          go_wp2_with fail
          exact bodyPost_ret (v := .agg #[.int .i64 0, .string (bs s), .slice a xs.length cap]) (resDk rfl _ rfl E.out.1) rfl E.out.2
        · have B1 := Lib.hid (show BaseD w b r (P + 502 - 0 * 100 + 1 + 1) (wp.setCell ⟨b, 1, none⟩ (.string ⟨#[97, 62]⟩)) (.int .i64 m) (.string ⟨#[97, 62]⟩) (.slice a xs.length cap) from ⟨BP.out.1.set 1 (.string ⟨#[97, 62]⟩), BP.out.set (by omega) hlt 1 _⟩)
          obtain ⟨⟨t0, t1, t2⟩, v0, v1, v2⟩ := three_facts B1.out.2.1
          have E := Lib.hid (desk_end (P := P) B1.out (OP.out.beside ⟨_, BP.out.1⟩ (grownBy_set wp b 1 _)) rfl hlt (by omega))
          go_wp2_with fail
          exact bodyPost_ret (v := .agg #[.int .i64 m, .string ⟨#[97, 62]⟩, .slice a xs.length cap]) (resDk rfl _ rfl E.out.1) rfl E.out.2
        · obtain ⟨i0, hi, hy0, hy1, hy2⟩ := info_parts infoLd
          have OQ := Lib.hid (OP.out.kept (World.grownBy_alloc _ (.cells #[.int .i64 0, .string ⟨#[]⟩] 29) none))
          have BQ := Lib.hid (BP.out.alloc (.cells #[.int .i64 0, .string ⟨#[]⟩] 29))
          go_wp2_with (at_builtin; refine wpList_append_own _ rfl _ _ 30 rfl w.heap.size 29 i0 (.agg #[.int .i64 0, .string ⟨#[]⟩]) 2 24 Tryz.underlying30 hi hy0 hy1 hy2 rfl (by decide) _ _ _ rfl OQ.out ⟨wp.heap.size, 0, none⟩ 1 1 (ldC [nilLd]) rfl rfl (World.news_of_block (CellsAt.new wp #[.int .i64 0, .string ⟨#[]⟩] 29)) (ldC_one [nilLd]) (by unfold maxLen; omega) (by omega) (by have := BQ.out.2.1.lt; omega) ?_; intro v' w4 hown' hgrow _; obtain ⟨a4, cap4, rfl, ho4⟩ := own2_more hown'; have B4 := Lib.hid (BQ.out.own OQ.out hlt hgrow); have O4 := Lib.hid ho4; obtain ⟨⟨d0, d1, d2⟩, f0, f1, f2⟩ := three_facts B4.out.1; obtain ⟨⟨z0, z1, z2⟩, y0, y1, y2⟩ := three_facts B4.out.2.1; have B5 := Lib.hid (show BaseD w b r (P + 502 - 0 * 100 + 1 + 1) (w4.setCell ⟨b, 2, none⟩ (.slice a4 (xs.length + 1) cap4)) (.int .i64 m) (.string (bs s)) (.slice a4 (xs.length + 1) cap4) from ⟨B4.out.1.set 2 (.slice a4 (xs.length + 1) cap4), B4.out.set (by omega) hlt 2 _⟩); obtain ⟨⟨t0, t1, t2⟩, v0, v1, v2⟩ := three_facts B5.out.2.1; have E := Lib.hid (desk_end (P := P) (xs := xs ++ [nilLd]) B5.out (O4.out.beside ⟨_, B4.out.1⟩ (grownBy_set w4 b 2 _)) (by simp) hlt (by omega)); clear ho4 hown' hgrow)
          exact bodyPost_ret (v := .agg #[.int .i64 m, .string (bs s), .slice a4 (xs.length + 1) cap4]) (resDk rfl _ rfl E.out.1) rfl E.out.2
    · have HB := Lib.hid hBd
      have HO := Lib.hid ho
      have HR := Lib.hid hR
      have HG := Lib.hid hgw
      have hrl := hrr.lt
      change xs.length + j ≤ 5 at hdj
      have hpos : 0 < (j : Int) := by omega
      clear hBd ho hR hgw
      go_wp2_with fail
      have lbw := HB.out.lt
      go_cut [8, 9] from 19 to 31 (fun pv bv wc => XGot w b r (P + 502 - j * 100 + 100) m s a cap xs pv bv wc)
      case first =>
        go_region_with (first | (go_at_call 95; (with_reducible refine (HD _ r (P + 502 - j * 100) (by first | with_reducible exact hrr.drewn | with_reducible exact (hrr.alloc _).drewn) (by omega)).mono ?_); rintro e wa ⟨DD, rfl, hDl, hra, hga⟩; have h1 := Lib.hid (show wr.grownBy wa (some r) from grownBy_trans (by first | exact grownBy_drew (grownBy_refl _ _) | exact grownBy_drew (World.grownBy_alloc _ _ _)) hga); have HBa := Lib.hid (HB.out.kept h1.out (by simp; omega)); have HOa := Lib.hid (HO.out.past h1.out (by omega)); obtain ⟨⟨d0, d1, d2⟩, f0, f1, f2⟩ := three_facts HBa.out; have lba := HBa.out.lt; (first | (with_reducible have HA := Lib.hid (nf_1 (grownBy_undrew hga) hrl)) | skip); (first | (obtain ⟨⟨q0, q1, q2⟩, j0', j1', j2'⟩ := three_facts HA.out; have hal := HA.out.lt) | skip)) | (go_at_call 61; (with_reducible refine (sdo_drawn m s xs a cap w.heap.size (by omega) _ DD (by first | with_reducible exact HOa.out | with_reducible exact HOa.out.kept (World.grownBy_alloc _ _ none)) (by first | exact (grownBy_trans HG.out h1.out).size | exact Nat.le_trans (grownBy_trans HG.out h1.out).size (World.grownBy_alloc _ _ none).size)).mono ?_); rintro e wb ⟨m2, s2, xs2, ok, a2, cap2, rfl, hok, hgb⟩; have h2 := Lib.hid (show wa.grownBy wb none from grownBy_trans (by first | exact grownBy_refl _ _ | exact World.grownBy_alloc _ _ _) hgb); have HBb := Lib.hid (HBa.out.grown h2.out); obtain ⟨⟨d0, d1, d2⟩, f0, f1, f2⟩ := three_facts HBb.out; have lbb := HBb.out.lt; (first | (with_reducible have HZ := Lib.hid (HA.out.grown hgb)) | (with_reducible have HZ := Lib.hid (nf_2 hgb)) | skip); (first | (obtain ⟨⟨q0, q1, q2⟩, j0', j1', j2'⟩ := three_facts HZ.out; have hzl := HZ.out.lt) | skip)))
        all_goals
          have BB := Lib.hid (show BaseD w b r (P + 502 - j * 100 + 100) wb (.int .i64 m) (.string (bs s)) (.slice a xs.length cap) from ⟨HBb.out, (HR.out.kept h1.out (by simp; omega)).grown h2.out, hra.grown h2.out, grownBy_trans (grownBy_trans HG.out h1.out) (grown_none h2.out)⟩)
          have OO := Lib.hid (HOa.out.kept h2.out)
          have hja : j - 1 ≤ 5 := by omega
          have hjq : P + 502 - j * 100 + 100 ≤ P + 502 - (j - 1) * 100 := by omega
          have sza : w.heap.size < wa.heap.size := (HR.out.kept h1.out (by simp; omega)).lt
          have szr : w.heap.size < wr.heap.size := HR.out.lt
        all_goals go_wp2_with fail
        all_goals go_meet
        all_goals first
          | with_reducible exact XGot.new BB.out OO.out hok
          | with_reducible exact XGot.old BB.out OO.out hok HZ.out (by omega) (by omega) hlt
          | (trace_state; fail)
      case rest =>
        obtain ⟨c, m2, s2, xs2, ok, a2, cap2, rfl, rfl, hBB, hOO, hC, hok, hc0, hcb⟩ := hcut
        have BB := Lib.hid hBB
        have OO := Lib.hid hOO
        have HC := Lib.hid hC
        have HK := Lib.hid hok
        clear hBB hOO hC hok HB HO HR HG hrr hpos
        obtain ⟨⟨d0, d1, d2⟩, f0, f1, f2⟩ := three_facts BB.out.1
        obtain ⟨⟨q0, q1, q2⟩, j0', j1', j2'⟩ := three_facts HC.out
        have hja : j - 1 ≤ 5 := by omega
        have hjq : P + 502 - j * 100 + 100 ≤ P + 502 - (j - 1) * 100 := by omega
        have hkk : Value.int .i64 ((j : Int) - 1) = .int .i64 ((j - 1 : Nat) : Int) := by congr 1; omega
        cases ok
        · go_wp2_with fail
          go_roundw
          case rel => exact DkL.mk BB.out OO.out hkk hja (by omega) hjq
          case measure => simp [intOf]; omega
        · have hl2 := (HK.out rfl).1
          go_wp2_with fail
          go_roundw
          case rel => exact DkL.mk (BB.out.put (by omega) hlt _ _ _) ((HK.out rfl).2.put3 (dkB_at BB.out.1) _ _ _) hkk hja (by omega) hjq
          case measure => simp [intOf]; omega

end Go.Proofs.YtlnffpofbfigaaaGreatDoor

/-
  The draw of a desk with a deed.
-/
namespace Go.Proofs.YtlnffpofbfigaaaGreatDoor
open Go.RowKit

/-- What lies where while the desk and the deed are handed out. -/
def DdS (w0 W : World) (c : Nat) (u v x p q t m s y : Value) : Prop :=
  CellsAt W w0.heap.size #[u, v, x] 32 ∧ CellsAt W (w0.heap.size + 1) #[p, q, t] 40 ∧ CellsAt W c #[m, s, y] 32 ∧ w0.grownBy W none ∧ w0.heap.size + 2 < c
def DdF (W : World) (b : Nat) (u v x : Value) : Prop := (W.cell? ⟨b, 0, none⟩ = some u ∧ W.cell? ⟨b, 1, none⟩ = some v ∧ W.cell? ⟨b, 2, none⟩ = some x) ∧ W.frozen? ⟨b, 0, none⟩ = false ∧ W.frozen? ⟨b, 1, none⟩ = false ∧ W.frozen? ⟨b, 2, none⟩ = false
theorem DdS.facts {w0 W : World} {c : Nat} {u v x p q t m s y : Value} (h : DdS w0 W c u v x p q t m s y) : DdF W w0.heap.size u v x ∧ DdF W (w0.heap.size + 1) p q t ∧ DdF W c m s y := ⟨three_facts h.1, set_facts h.2.1, three_facts h.2.2.1⟩
theorem DdS.put {w0 W : World} {c : Nat} {u v x p q t m s y : Value} (h : DdS w0 W c u v x p q t m s y) (a b d : Value) : DdS w0 (((W.setCell ⟨w0.heap.size, 0, none⟩ a).setCell ⟨w0.heap.size, 1, none⟩ b).setCell ⟨w0.heap.size, 2, none⟩ d) c a b d p q t m s y :=
  ⟨h.1.put3 _ _ _, h.2.1.kept (put3_past W _ _ _ _) (by simp), h.2.2.1.kept (put3_past W _ _ _ _) (by have := h.2.2.2.2; simp; omega), put3_grown _ h.2.2.2.1 (Nat.le_refl _) _ _ _, h.2.2.2.2⟩
theorem DdS.put2 {w0 W : World} {c : Nat} {u v x p q t m s y : Value} (h : DdS w0 W c u v x p q t m s y) (a b d : Value) : DdS w0 (((W.setCell ⟨w0.heap.size + 1, 0, none⟩ a).setCell ⟨w0.heap.size + 1, 1, none⟩ b).setCell ⟨w0.heap.size + 1, 2, none⟩ d) c u v x a b d m s y :=
  ⟨h.1.kept (put3_past W _ _ _ _) (by simp), h.2.1.put3 _ _ _, h.2.2.1.kept (put3_past W _ _ _ _) (by have := h.2.2.2.2; simp; omega), put3_grown _ h.2.2.2.1 (by omega) _ _ _, h.2.2.2.2⟩
theorem DdS.call {w0 W W' : World} {c : Nat} {u v x p q t m s y : Value} (h : DdS w0 W c u v x p q t m s y) (hg : W.grownBy W' (some (w0.heap.size + 2))) : DdS w0 W' c u v x p q t m s y :=
  ⟨h.1.kept hg (by simp), h.2.1.kept hg (by simp), h.2.2.1.kept hg (by have := h.2.2.2.2; simp; omega), ⟨hg.os.trans h.2.2.2.1.os, hg.tape.trans h.2.2.2.1.tape, hg.output.trans h.2.2.2.1.output, Nat.le_trans h.2.2.2.1.size hg.size, fun k hk hn => (hg.block k (Nat.lt_of_lt_of_le hk h.2.2.2.1.size) (by simp; omega)).trans (h.2.2.2.1.block k hk hn)⟩, h.2.2.2.2⟩
theorem DdS.drew {w0 W : World} {c : Nat} {u v x p q t m s y : Value} (h : DdS w0 W c u v x p q t m s y) : DdS w0 W.drew c u v x p q t m s y := ⟨h.1, h.2.1, h.2.2.1, grownBy_drew h.2.2.2.1, h.2.2.2.2⟩

end Go.Proofs.YtlnffpofbfigaaaGreatDoor

/-
  The draw of a desk with deeds.
-/
namespace Go.Proofs.YtlnffpofbfigaaaGreatDoor
open Go.RowKit

/-- What lies where while the desk and the deeds are handed out. -/
def DrS (w0 W : World) (c : Nat) (u v x m s y : Value) : Prop :=
  CellsAt W w0.heap.size #[u, v, x] 32 ∧ CellsAt W c #[m, s, y] 32 ∧ w0.grownBy W none ∧ w0.heap.size + 1 < c
theorem DrS.facts {w0 W : World} {c : Nat} {u v x m s y : Value} (h : DrS w0 W c u v x m s y) : DdF W w0.heap.size u v x ∧ DdF W c m s y := ⟨three_facts h.1, three_facts h.2.1⟩
theorem DrS.put {w0 W : World} {c : Nat} {u v x m s y : Value} (h : DrS w0 W c u v x m s y) (a b d : Value) : DrS w0 (((W.setCell ⟨w0.heap.size, 0, none⟩ a).setCell ⟨w0.heap.size, 1, none⟩ b).setCell ⟨w0.heap.size, 2, none⟩ d) c a b d m s y :=
  ⟨h.1.put3 _ _ _, h.2.1.kept (put3_past W _ _ _ _) (by have := h.2.2.2; simp; omega), put3_grown _ h.2.2.1 (Nat.le_refl _) _ _ _, h.2.2.2⟩
theorem DrS.call {w0 W W' : World} {c : Nat} {u v x m s y : Value} (h : DrS w0 W c u v x m s y) (hg : W.grownBy W' (some (w0.heap.size + 1))) : DrS w0 W' c u v x m s y :=
  ⟨h.1.kept hg (by simp), h.2.1.kept hg (by have := h.2.2.2; simp; omega), ⟨hg.os.trans h.2.2.1.os, hg.tape.trans h.2.2.1.tape, hg.output.trans h.2.2.1.output, Nat.le_trans h.2.2.1.size hg.size, fun k hk _ => (hg.block k (Nat.lt_of_lt_of_le hk h.2.2.1.size) (by simp; omega)).trans (h.2.2.1.block k hk (by simp))⟩, h.2.2.2⟩
theorem DrS.drew {w0 W : World} {c : Nat} {u v x m s y : Value} (h : DrS w0 W c u v x m s y) : DrS w0 W.drew c u v x m s y := ⟨h.1, h.2.1, grownBy_drew h.2.2.1, h.2.2.2⟩
theorem DrS.alloc {w0 W : World} {c : Nat} {u v x m s y : Value} (h : DrS w0 W c u v x m s y) (X : Obj) : DrS w0 (W.alloc X) c u v x m s y :=
  ⟨h.1.grown (World.grownBy_alloc _ _ none), h.2.1.grown (World.grownBy_alloc _ _ none), grownBy_trans h.2.2.1 (World.grownBy_alloc _ _ none), h.2.2.2⟩

end Go.Proofs.YtlnffpofbfigaaaGreatDoor

/-
  What lies where while the exact laws of desks mark what came in and what was answered.
-/
namespace Go.Proofs.YtlnffpofbfigaaaGreatDoor
open Go.RowKit

/-- A row that lies below a block, if it has a pair at all. -/
def UpTo (n : Nat) (a : Option Addr) (xs : List Ld) : Prop := xs = [] ∨ ∀ x, a = some x → x.block < n
theorem OwnL.upto {w : World} {base : Nat} {a : Option Addr} {xs : List Ld} (h : OwnL w base a xs) : UpTo w.heap.size a xs := by
  rcases h.2 with h | ⟨g, off, cur, rfl, _, hg, _⟩
  · exact .inl h
  · exact .inr fun x hx => by cases hx; exact (Array.getElem?_eq_some_iff.1 hg).1
theorem UpTo.mono {m n : Nat} {a : Option Addr} {xs : List Ld} (h : UpTo m a xs) (hn : m ≤ n) : UpTo n a xs := by
  rcases h with h | h
  · exact .inl h
  · exact .inr fun x hx => Nat.lt_of_lt_of_le (h x hx) hn
/-- The block that a mark writes: that of a row that the call owns. -/
def RowAt (row : Option Nat) (a : Option Addr) (n : Nat) : Prop := ∀ g, row = some g → 0 < n ∧ ∃ x, a = some x ∧ x.block = g
theorem OwnL.row {w : World} {base g : Nat} {a : Option Addr} {xs : List Ld} {row : Option Nat} (h : OwnL w base a xs) (hr : RowAt row a xs.length) (e : row = some g) : base ≤ g ∧ g < w.heap.size ∧ ∃ cur, w.heap[g]? = some (.cells cur 29 (0, 0)) := by
  obtain ⟨hn, x, rfl, hx⟩ := hr g e
  rcases h.2 with h0 | ⟨g', off, cur, ha, hb, hg, _⟩
  · rw [h0] at hn; simp at hn
  · cases ha
    subst hx
    exact ⟨hb, (Array.getElem?_eq_some_iff.1 hg).1, cur, hg⟩
theorem CellsAt.mark {w w' : World} {base b : Nat} {a : Option Addr} {xs : List Ld} {row : Option Nat} {vs : Array Value} (hB : CellsAt w b vs 32) (h : OwnL w base a xs) (hr : RowAt row a xs.length) (hg : w.grownBy w' row) : CellsAt w' b vs 32 := by
  refine hB.kept hg fun e => ?_
  obtain ⟨_, _, cur, hc⟩ := h.row hr e.symm
  unfold CellsAt at hB
  rw [hB] at hc
  simp at hc
theorem OwnL.mark {w w' : World} {base base2 : Nat} {a b : Option Addr} {xs ys : List Ld} {row : Option Nat} (o : OwnL w base2 b ys) (h : OwnL w base a xs) (hr : RowAt row a xs.length) (hg : w.grownBy w' row) (hap : UpTo base b ys ∨ UpTo base2 a xs) : OwnL w' base2 b ys := by
  refine ⟨o.1, ?_⟩
  by_cases hy : ys = []
  · exact .inl hy
  · obtain ⟨g, off, cur, hb, hbb, hh, hc⟩ := o.2.resolve_left hy
    refine .inr ⟨g, off, cur, hb, hbb, (hg.block g (Array.getElem?_eq_some_iff.1 hh).1 fun e => ?_).trans hh, hc⟩
    obtain ⟨h1, h2, _⟩ := h.row hr e.symm
    obtain ⟨hn, x, hx, hxg⟩ := hr g e.symm
    have hxs : xs ≠ [] := fun q => by rw [q] at hn; simp at hn
    rcases hap with hap | hap
    · have q := hap.resolve_left hy _ hb
      simp at q
      omega
    · have q := hap.resolve_left hxs _ hx
      omega
theorem grown_mark {w0 w w' : World} {base : Nat} {a : Option Addr} {xs : List Ld} {row : Option Nat} (g : w0.grownBy w none) (h : OwnL w base a xs) (hb : w0.heap.size ≤ base) (hr : RowAt row a xs.length) (hg : w.grownBy w' row) : w0.grownBy w' none :=
  ⟨hg.os.trans g.os, hg.tape.trans g.tape, hg.output.trans g.output, Nat.le_trans g.size hg.size, fun k hk hn => (hg.block k (Nat.lt_of_lt_of_le hk g.size) fun e => by
    have := (h.row hr e.symm).1
    omega).trans (g.block k hk hn)⟩

/-- Ahead of the marks: three variables (the model's answer, what was handed in, the program's answer) and their rows. -/
structure StA (w0 W : World) (b0 b1 b2 s1 s2 : Nat) (p : Int) (u : List UInt8) (ys : List Ld) (n : Int) (s : ByteArray) (xs : List Ld) (a0 a1 a2 : Option Addr) (c0 c1 c2 : Nat) : Prop where
  v0 : CellsAt W b0 #[.int .i64 p, .string (bs u), .slice a0 ys.length c0] 32
  v1 : CellsAt W b1 #[.int .i64 n, .string s, .slice a1 xs.length c1] 32
  v2 : CellsAt W b2 #[.int .i64 p, .string (bs u), .slice a2 ys.length c2] 32
  o0 : OwnL W w0.heap.size a0 ys
  o1 : OwnL W s1 a1 xs
  o2 : OwnL W s2 a2 ys
  u0 : UpTo s1 a0 ys
  u1 : UpTo s2 a1 xs
  h1 : w0.heap.size ≤ s1
  h2 : s1 ≤ s2
  gr : w0.grownBy W none
theorem StA.grown {w0 W W' : World} {b0 b1 b2 s1 s2 : Nat} {p : Int} {u : List UInt8} {ys : List Ld} {n : Int} {s : ByteArray} {xs : List Ld} {a0 a1 a2 : Option Addr} {c0 c1 c2 : Nat} (h : StA w0 W b0 b1 b2 s1 s2 p u ys n s xs a0 a1 a2 c0 c1 c2) (hg : W.grownBy W' none) : StA w0 W' b0 b1 b2 s1 s2 p u ys n s xs a0 a1 a2 c0 c1 c2 :=
  ⟨h.v0.grown hg, h.v1.grown hg, h.v2.grown hg, h.o0.kept hg, h.o1.kept hg, h.o2.kept hg, h.u0, h.u1, h.h1, h.h2, grownBy_trans h.gr hg⟩
/-- Behind the first mark. -/
structure StB (w0 W : World) (b0 b2 s1 s2 : Nat) (p : Int) (u : List UInt8) (ys : List Ld) (a0 a2 : Option Addr) (c0 c2 : Nat) : Prop where
  v0 : CellsAt W b0 #[.int .i64 p, .string (bs u), .slice a0 ys.length c0] 32
  v2 : CellsAt W b2 #[.int .i64 p, .string (bs u), .slice a2 ys.length c2] 32
  o0 : OwnL W w0.heap.size a0 ys
  o2 : OwnL W s2 a2 ys
  u0 : UpTo s1 a0 ys
  h1 : w0.heap.size ≤ s1
  h2 : s1 ≤ s2
  gr : w0.grownBy W none
theorem StB.grown {w0 W W' : World} {b0 b2 s1 s2 : Nat} {p : Int} {u : List UInt8} {ys : List Ld} {a0 a2 : Option Addr} {c0 c2 : Nat} (h : StB w0 W b0 b2 s1 s2 p u ys a0 a2 c0 c2) (hg : W.grownBy W' none) : StB w0 W' b0 b2 s1 s2 p u ys a0 a2 c0 c2 :=
  ⟨h.v0.grown hg, h.v2.grown hg, h.o0.kept hg, h.o2.kept hg, h.u0, h.h1, h.h2, grownBy_trans h.gr hg⟩
theorem StA.mark {w0 W W' : World} {b0 b1 b2 s1 s2 k : Nat} {p : Int} {u : List UInt8} {ys : List Ld} {n : Int} {s : ByteArray} {xs : List Ld} {a0 a1 a2 : Option Addr} {c0 c1 c2 : Nat} (h : StA w0 W b0 b1 b2 s1 s2 p u ys n s xs a0 a1 a2 c0 c1 c2) (hM : MarkedD a1 k xs.length W W') : StB w0 W' b0 b2 s1 s2 p u ys a0 a2 c0 c2 := by
  obtain ⟨_, row, hr, hg⟩ := hM
  have hr : RowAt row a1 xs.length := hr
  exact ⟨h.v0.mark h.o1 hr hg, h.v2.mark h.o1 hr hg, h.o0.mark h.o1 hr hg (.inl h.u0), h.o2.mark h.o1 hr hg (.inr h.u1), h.u0, h.h1, h.h2, grown_mark h.gr h.o1 h.h1 hr hg⟩
/-- Behind the second mark. -/
structure StC (w0 W : World) (b0 b2 k : Nat) (p : Int) (u : List UInt8) (ys : List Ld) (a0 a2 : Option Addr) (c0 c2 : Nat) : Prop where
  v0 : CellsAt W b0 #[.int .i64 p, .string (bs u), .slice a0 ys.length c0] 32
  v2 : CellsAt W b2 #[.int .i64 p, .string (bs u), .slice a2 ys.length c2] 32
  o0 : OwnL W w0.heap.size a0 ys
  m2 : LdsAt W a2 (mkRow k ys.length)
  gr : w0.grownBy W none
theorem StC.grown {w0 W W' : World} {b0 b2 k : Nat} {p : Int} {u : List UInt8} {ys : List Ld} {a0 a2 : Option Addr} {c0 c2 : Nat} (h : StC w0 W b0 b2 k p u ys a0 a2 c0 c2) (hg : W.grownBy W' none) : StC w0 W' b0 b2 k p u ys a0 a2 c0 c2 :=
  ⟨h.v0.grown hg, h.v2.grown hg, h.o0.kept hg, h.m2.grown hg, grownBy_trans h.gr hg⟩
theorem StB.mark {w0 W W' : World} {b0 b2 s1 s2 k : Nat} {p : Int} {u : List UInt8} {ys : List Ld} {a0 a2 : Option Addr} {c0 c2 : Nat} (h : StB w0 W b0 b2 s1 s2 p u ys a0 a2 c0 c2) (hM : MarkedD a2 k ys.length W W') : StC w0 W' b0 b2 k p u ys a0 a2 c0 c2 := by
  obtain ⟨hm, row, hr, hg⟩ := hM
  have hr : RowAt row a2 ys.length := hr
  exact ⟨h.v0.mark h.o2 hr hg, h.v2.mark h.o2 hr hg, h.o0.mark h.o2 hr hg (.inl (h.u0.mono h.h2)), hm, grown_mark h.gr h.o2 (Nat.le_trans h.h1 h.h2) hr hg⟩

end Go.Proofs.YtlnffpofbfigaaaGreatDoor

/-
  The walk of FnExactDeskDo.
-/
namespace Go.Proofs.YtlnffpofbfigaaaGreatDoor
open Go.RowKit

theorem lastS7' {a b c d e f g : Prop} (h : a ∧ b ∧ c ∧ d ∧ e ∧ f ∧ g) : g := h.2.2.2.2.2.2
/-- What lies in a block that was new ahead of a call, once the call is done. -/
def NewAt (w0 W : World) (b : Nat) : Prop := CellsAt W b #[.int .i64 0, .string ⟨#[]⟩, .slice none 0 0] 32 ∧ w0.heap.size ≤ b
theorem NewAt.facts {w0 W : World} {b : Nat} (h : NewAt w0 W b) : ((W.cell? ⟨b, 0, none⟩ = some (.int .i64 0) ∧ W.cell? ⟨b, 1, none⟩ = some (.string ⟨#[]⟩) ∧ W.cell? ⟨b, 2, none⟩ = some (.slice none 0 0)) ∧ W.frozen? ⟨b, 0, none⟩ = false ∧ W.frozen? ⟨b, 1, none⟩ = false ∧ W.frozen? ⟨b, 2, none⟩ = false) ∧ b < W.heap.size := ⟨dk_facts h.1, h.1.lt⟩
theorem NewAt.more {w0 W W' : World} {b : Nat} (h : NewAt w0 W b) (hg : W.grownBy W' none) : NewAt w0 W' b := ⟨h.1.grown hg, h.2⟩

/-- What a call of DeskDo answers, cell by cell; its row is the call's own. -/
def RunZ (m : Int) (s : List UInt8) (xs : List Ld) (v0 : Value) (w : World) (e : Ending) (w' : World) : Prop := ∃ (a : Option Addr) (cap : Nat), e = .returned (.tuple #[.agg #[.int .i64 m, .string (bs s), .slice a xs.length cap], v0]) ∧ OwnL w' w.heap.size a xs ∧ (a = none → cap = 0) ∧ w.grownBy w' none
theorem doR_long {d : Dk} {D : Dd} {p : Int} {u : List UInt8} {ys : List Ld} {ok : Bool} (h : doR d D = (((p, u), ys), ok)) : ys.length ≤ d.2.length + 9 := by
  unfold doR at h
  split at h
  · cases hq : doD d D with
    | none => rw [hq] at h; cases h; exact Nat.le_add_right _ _
    | some e =>
      rw [hq] at h
      cases h
      rcases doD_of hq with ⟨_, q, _, he⟩ | ⟨_, y, _, he⟩
      · cases he; rw [List.length_dropLast]; omega
      · cases he
        have := capP_len (d.2 ++ [d.1])
        omega
  · cases h; simp

end Go.Proofs.YtlnffpofbfigaaaGreatDoor
