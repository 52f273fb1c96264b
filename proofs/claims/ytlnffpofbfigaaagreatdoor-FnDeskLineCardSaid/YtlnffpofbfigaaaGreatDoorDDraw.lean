/-
  The draws of chapter 12: a deed.
-/
import Derived.Test.YtlnffpofbfigaaaGreatDoorDDo2
import Derived.Test.YtlnffpofbfigaaaGreatDoorADraw
import Derived.Test.YtlnffpofbfigaaaGreatDoorDWa
import Derived.Deep.DeepCutAuto
namespace Go.Proofs.YtlnffpofbfigaaaGreatDoor
open Go.RowKit

theorem lit8 (k : Nat) (h : k < 8) : ∃ v : Int, (#[.int .i64 0, .int .i64 1, .int .i64 1, .int .i64 2, .int .i64 3, .int .i64 4, .int .i64 5, .int .i64 6] : Array Value)[k]? = some (.int .i64 v) ∧ 0 ≤ v ∧ v ≤ 6 := by
  match k, h with
  | 0, _ => exact ⟨_, rfl, by decide⟩
  | 1, _ => exact ⟨_, rfl, by decide⟩
  | 2, _ => exact ⟨_, rfl, by decide⟩
  | 3, _ => exact ⟨_, rfl, by decide⟩
  | 4, _ => exact ⟨_, rfl, by decide⟩
  | 5, _ => exact ⟨_, rfl, by decide⟩
  | 6, _ => exact ⟨_, rfl, by decide⟩
  | 7, _ => exact ⟨_, rfl, by decide⟩

theorem cell_made2 {w : World} {A : Obj} {C : Array Value} {t : TypeId} {k : Nat} {x : Value} (hC : C[k]? = some x) : ((w.alloc A).alloc (.cells C t)).cell? ⟨w.heap.size + 1, k, none⟩ = some x := (CellsAt.second w A C t).cell hC
theorem cell_kept2 {w w' : World} {A : Obj} {C : Array Value} {t : TypeId} {r k : Nat} {x : Value} (hg : ((w.alloc A).alloc (.cells C t)).grownBy w' (some r)) (hr : r < w.heap.size) (hC : C[k]? = some x) : w'.cell? ⟨w.heap.size + 1, k, none⟩ = some x :=
  ((CellsAt.second w A C t).kept hg (by simp; omega)).cell hC
theorem cell_kept3 {w w' : World} {A : Obj} {C : Array Value} {t : TypeId} {r k : Nat} {x : Value} (hg : ((w.alloc (.cells C t)).alloc A).grownBy w' (some r)) (hr : r < w.heap.size) (hC : C[k]? = some x) : w'.cell? ⟨w.heap.size, k, none⟩ = some x :=
  ((CellsAt.first w A C t).kept hg (by simp; omega)).cell hC

theorem af_1 {W0 wb : World} {r : Nat} (hg : (W0.alloc (.cells #[.int .i64 0, .int .i64 0, .string ⟨#[]⟩] 40)).grownBy wb (some r)) (hr : r < W0.heap.size) : CellsAt wb W0.heap.size #[.int .i64 0, .int .i64 0, .string ⟨#[]⟩] 40 := (CellsAt.new W0 _ _).kept hg (by simp; omega)
theorem af_2 {W0 wb : World} {X : Obj} {r : Nat} (hg : ((W0.alloc X).alloc (.cells #[.int .i64 0, .int .i64 0, .string ⟨#[]⟩] 40)).grownBy wb (some r)) (hr : r < W0.heap.size) : CellsAt wb (W0.heap.size + 1) #[.int .i64 0, .int .i64 0, .string ⟨#[]⟩] 40 := (CellsAt.second W0 X _ _).kept hg (by simp; omega)
theorem af_3 {W0 wb : World} {X : Obj} {r : Nat} (hg : ((W0.alloc (.cells #[.int .i64 0, .int .i64 0, .string ⟨#[]⟩] 40)).alloc X).grownBy wb (some r)) (hr : r < W0.heap.size) : CellsAt wb W0.heap.size #[.int .i64 0, .int .i64 0, .string ⟨#[]⟩] 40 := (CellsAt.first W0 X _ _).kept hg (by simp; omega)
theorem af_4 {wb wd : World} {b r : Nat} (h : CellsAt wb b #[.int .i64 0, .int .i64 0, .string ⟨#[]⟩] 40) (hg : wb.grownBy wd (some r)) (hr : r < b) : CellsAt wd b #[.int .i64 0, .int .i64 0, .string ⟨#[]⟩] 40 := h.kept hg (by simp; omega)
theorem af_5 {wb wd : World} {X : Obj} {b r : Nat} (h : CellsAt wb b #[.int .i64 0, .int .i64 0, .string ⟨#[]⟩] 40) (hg : (wb.alloc X).grownBy wd (some r)) (hr : r < b) : CellsAt wd b #[.int .i64 0, .int .i64 0, .string ⟨#[]⟩] 40 := (h.grown (World.grownBy_alloc _ _ none)).kept hg (by simp; omega)

theorem cell_stays2 {w1 w2 : World} {X : Obj} {r b k : Nat} {x : Value} (h : w1.cell? ⟨b, k, none⟩ = some x) (hg : (w1.alloc X).grownBy w2 (some r)) (hne : r < b) : w2.cell? ⟨b, k, none⟩ = some x :=
  cell_stays ((World.grownBy_alloc w1 X none).cell h (by simp)) hg hne

def DeedPost (r P : Nat) (w : World) (e : Ending) (w' : World) : Prop :=
  ∃ D : Dd, e = .returned (.agg #[.int .i64 D.1, .int .i64 D.2.1, .string (bs D.2.2)]) ∧ D.2.2.length ≤ 100 ∧ Rd w' r (P + 100) ∧ w.grownBy w' (some r)
/-- A deed that is being made: its block, and the result's. -/
def DeedAt (w0 : World) (r P : Nat) (v : Value) (wc : World) : Prop :=
  ∃ (b : Nat) (k : Int), v = .pointer (some ⟨b, 0, none⟩) ∧ CellsAt wc b #[.int .i64 k, .int .i64 0, .string ⟨#[]⟩] 40 ∧ w0.heap.size < b ∧ CellsAt wc w0.heap.size #[.int .i64 0, .int .i64 0, .string ⟨#[]⟩] 40 ∧ 0 ≤ k ∧ k ≤ 13 ∧ Rd wc r (P + 2) ∧ w0.grownBy wc (some r)

theorem kbound (v : Int) (k2 : Nat) (h : 0 ≤ v ∧ v ≤ 6) (hk : k2 < 60) : 0 ≤ IntKind.i64.wrap (v + IntKind.i64.wrap (IntKind.i64.wrap ((k2 : Int) / 59) * 7)) ∧ IntKind.i64.wrap (v + IntKind.i64.wrap (IntKind.i64.wrap ((k2 : Int) / 59) * 7)) ≤ 13 := by
  have e1 : IntKind.i64.wrap ((k2 : Int) / 59) = (k2 : Int) / 59 := IntWalk.i64_in _ (by omega)
  have e2 : IntKind.i64.wrap ((k2 : Int) / 59 * 7) = (k2 : Int) / 59 * 7 := IntWalk.i64_in _ (by omega)
  have e3 : IntKind.i64.wrap (v + (k2 : Int) / 59 * 7) = v + (k2 : Int) / 59 * 7 := IntWalk.i64_in _ (by omega)
  rw [e1, e2, e3]; omega
theorem deed_1 {w wd : World} {r P : Nat} {k : Int} (hR : CellsAt wd w.heap.size #[.int .i64 0, .int .i64 0, .string ⟨#[]⟩] 40) (hr : Rd wd r (P + 2)) (hg : w.grownBy wd (some r)) (hK : 0 ≤ k ∧ k ≤ 13) : DeedAt w r P (.pointer (some ⟨wd.heap.size, 0, none⟩)) (wd.alloc (.cells #[.int .i64 k, .int .i64 0, .string ⟨#[]⟩] 40)) :=
  ⟨_, k, rfl, CellsAt.new wd _ _, hR.lt, hR.grown (World.grownBy_alloc _ _ none), hK.1, hK.2, hr.alloc _, grownBy_trans hg (World.grownBy_alloc _ _ _)⟩
theorem deed_2 {w wd : World} {r P : Nat} {k : Int} {X : Obj} (hR : CellsAt wd w.heap.size #[.int .i64 0, .int .i64 0, .string ⟨#[]⟩] 40) (hr : Rd wd r (P + 2)) (hg : w.grownBy wd (some r)) (hK : 0 ≤ k ∧ k ≤ 13) : DeedAt w r P (.pointer (some ⟨wd.heap.size + 1, 0, none⟩)) ((wd.alloc X).alloc (.cells #[.int .i64 k, .int .i64 0, .string ⟨#[]⟩] 40)) :=
  ⟨_, k, rfl, CellsAt.second wd X _ _, by have := hR.lt; omega, (hR.grown (World.grownBy_alloc _ _ none)).grown (World.grownBy_alloc _ _ none), hK.1, hK.2, (hr.alloc _).alloc _, grownBy_trans (grownBy_trans hg (World.grownBy_alloc _ _ _)) (World.grownBy_alloc _ _ _)⟩
theorem deed_3 {w wd : World} {r P : Nat} {k : Int} {X : Obj} (hR : CellsAt wd w.heap.size #[.int .i64 0, .int .i64 0, .string ⟨#[]⟩] 40) (hr : Rd wd r (P + 2)) (hg : w.grownBy wd (some r)) (hK : 0 ≤ k ∧ k ≤ 13) : DeedAt w r P (.pointer (some ⟨wd.heap.size, 0, none⟩)) ((wd.alloc (.cells #[.int .i64 k, .int .i64 0, .string ⟨#[]⟩] 40)).alloc X) :=
  ⟨_, k, rfl, CellsAt.first wd X _ _, hR.lt, (hR.grown (World.grownBy_alloc _ _ none)).grown (World.grownBy_alloc _ _ none), hK.1, hK.2, (hr.alloc _).alloc _, grownBy_trans (grownBy_trans hg (World.grownBy_alloc _ _ _)) (World.grownBy_alloc _ _ _)⟩
theorem rd_sets {wd w' : World} {r P b : Nat} (hr : Rd wd r P) (hg : wd.grownBy w' (some b)) (hb : r < b) : Rd w' r P := hr.kept fun k hk => hg.block k (by have := hr.lt; omega) (by simp; omega)
theorem grown_sets {w wd w' : World} {r b : Nat} (h : w.grownBy wd (some r)) (hg : wd.grownBy w' (some b)) (hb : w.heap.size ≤ b) : w.grownBy w' (some r) :=
  ⟨hg.os.trans h.os, hg.tape.trans h.tape, hg.output.trans h.output, Nat.le_trans h.size hg.size, fun k hk hn => (hg.block k (Nat.lt_of_lt_of_le hk h.size) (by simp; omega)).trans (h.block k hk hn)⟩
theorem deed_4 {w wd : World} {r P b : Nat} {k : Int} (hR : CellsAt wd w.heap.size #[.int .i64 0, .int .i64 0, .string ⟨#[]⟩] 40) (hr : Rd wd r (P + 2)) (hg : w.grownBy wd (some r)) (hl : r < w.heap.size) (hK : 0 ≤ k ∧ k ≤ 13) (hZ : CellsAt wd b #[.int .i64 0, .int .i64 0, .string ⟨#[]⟩] 40) (hb : w.heap.size < b) : DeedAt w r P (.pointer (some ⟨b, 0, none⟩)) (((wd.setCell ⟨b, 0, none⟩ (.int .i64 k)).setCell ⟨b, 1, none⟩ (.int .i64 0)).setCell ⟨b, 2, none⟩ (.string ⟨#[]⟩)) :=
  ⟨b, k, rfl, hZ.put3 _ _ _, hb, hR.kept (put3_past wd b _ _ _) (by simp; omega), hK.1, hK.2, rd_sets hr (put3_past wd b _ _ _) (by omega), grown_sets hg (put3_past wd b _ _ _) (by omega)⟩
theorem deed_5 {w wd : World} {r P b : Nat} {k : Int} {X : Obj} (hR : CellsAt wd w.heap.size #[.int .i64 0, .int .i64 0, .string ⟨#[]⟩] 40) (hr : Rd wd r (P + 2)) (hg : w.grownBy wd (some r)) (hl : r < w.heap.size) (hK : 0 ≤ k ∧ k ≤ 13) (hZ : CellsAt wd b #[.int .i64 0, .int .i64 0, .string ⟨#[]⟩] 40) (hb : w.heap.size < b) : DeedAt w r P (.pointer (some ⟨b, 0, none⟩)) ((((wd.setCell ⟨b, 0, none⟩ (.int .i64 k)).setCell ⟨b, 1, none⟩ (.int .i64 0)).setCell ⟨b, 2, none⟩ (.string ⟨#[]⟩)).alloc X) := by
  obtain ⟨b', k', h1, h2, h3, h4, h5, h6, h7, h8⟩ := deed_4 (P := P) hR hr hg hl hK hZ hb
  exact ⟨b', k', h1, h2.grown (World.grownBy_alloc _ _ none), h3, h4.grown (World.grownBy_alloc _ _ none), h5, h6, h7.alloc _, grownBy_trans h8 (World.grownBy_alloc _ _ _)⟩

theorem sizeDd : (Tryz.prog.info? 40).map (·.size) = some 3 := by kernel_rfl
theorem resDd {fn : Func} {p : Tmp} (h : fn.results = #[.cell p 40]) (tmps : Array Value) {w : World} {B : Nat} {x y z : Value} (hp : tmps.getD p undef = .pointer (some ⟨B, 0, none⟩)) (hB : CellsAt w B #[x, y, z] 40) :
    (results fn tmps).run Tryz.prog w = .ok (.agg #[x, y, z]) w := results_cell_row h tmps w B 40 #[x, y, z] (0, 0) _ hp hB Tryz.underlying40 rfl sizeDd
theorem deed_end {w W : World} {r P Q : Nat} {K N : Int} {s : ByteArray} (hR : CellsAt W w.heap.size #[.int .i64 0, .int .i64 0, .string ⟨#[]⟩] 40) (hr : Rd W r Q) (hQ : Q ≤ P + 100) (hg : w.grownBy W (some r)) (hl : r < w.heap.size) (hs : s.size ≤ 100) :
    CellsAt (((W.setCell ⟨w.heap.size, 0, none⟩ (.int .i64 K)).setCell ⟨w.heap.size, 1, none⟩ (.int .i64 N)).setCell ⟨w.heap.size, 2, none⟩ (.string s)) w.heap.size #[.int .i64 K, .int .i64 N, .string s] 40 ∧
      DeedPost r P w (.returned (.agg #[.int .i64 K, .int .i64 N, .string s])) (((W.setCell ⟨w.heap.size, 0, none⟩ (.int .i64 K)).setCell ⟨w.heap.size, 1, none⟩ (.int .i64 N)).setCell ⟨w.heap.size, 2, none⟩ (.string s)) :=
  ⟨hR.put3 _ _ _, (K, N, bl s), rfl, by show (bl s).length ≤ 100; rw [← bl_size]; exact hs, (rd_sets hr (put3_past W _ _ _ _) hl).mono hQ, grown_sets hg (put3_past W _ _ _ _) (Nat.le_refl _)⟩
theorem set_facts {W : World} {b : Nat} {u v x : Value} (h : CellsAt W b #[u, v, x] 40) : (W.cell? ⟨b, 0, none⟩ = some u ∧ W.cell? ⟨b, 1, none⟩ = some v ∧ W.cell? ⟨b, 2, none⟩ = some x) ∧ W.frozen? ⟨b, 0, none⟩ = false ∧ W.frozen? ⟨b, 1, none⟩ = false ∧ W.frozen? ⟨b, 2, none⟩ = false := ⟨h.three, h.frozen 0, h.frozen 1, h.frozen 2⟩

set_option maxRecDepth 8000 in
set_option maxHeartbeats 8000000 in
theorem deed_draw (w : World) (r P : Nat) (hr : Rd w r P) (hP : P ≤ 60000) :
    Calls Tryz.prog 95 #[.pointer (some ⟨r, 0, none⟩)] w (DeedPost r P w) := by
  have hlt := hr.lt
  have hr0 := hr.alloc (.cells #[.int .i64 0, .int .i64 0, .string ⟨#[]⟩] 40)
  go_enter Tryz.func95, Tryz.ntmps95
  go_wp2_with fail
  have hRB := CellsAt.new w #[.int .i64 0, .int .i64 0, .string ⟨#[]⟩] 40
  have hg0 := World.grownBy_alloc w (.cells #[.int .i64 0, .int .i64 0, .string ⟨#[]⟩] 40) (some r)
  have hlw : w.heap.size < (w.alloc (.cells #[.int .i64 0, .int .i64 0, .string ⟨#[]⟩] 40)).heap.size := hRB.lt
  generalize w.alloc (.cells #[.int .i64 0, .int .i64 0, .string ⟨#[]⟩] 40) = W0 at *
  have HRB := Lib.hid hRB
  have HG0 := Lib.hid hg0
  have hl0 := hr0.lt
  clear hRB hg0 hr
  have p8 : ∀ w', Rd w' r P → Calls Tryz.prog 41 #[.pointer (some ⟨r, 0, none⟩), .int .i64 8] w' (PickPost 8 r P w') := fun w' h => pick_any 8 w' r P h (by omega)
  have p60 : ∀ w', Rd w' r (P + 1) → Calls Tryz.prog 41 #[.pointer (some ⟨r, 0, none⟩), .int .i64 60] w' (PickPost 60 r (P + 1) w') := fun w' h => pick_any 60 w' r (P + 1) h (by omega)
  go_cut [3] (fun v wc => DeedAt w r P v wc)
  case first =>
    go_region_with (first | (go_at_call 41; (with_reducible refine (p8 _ (by first | with_reducible exact hr0.drewn | with_reducible exact (hr0.alloc _).drewn | with_reducible exact ((hr0.alloc _).alloc _).drewn)).mono ?_); rintro e wb ⟨k1, rfl, hk0, hk1, hr1, hg1⟩; obtain ⟨k1, rfl⟩ := Int.eq_ofNat_of_zero_le hk0; obtain ⟨v1, hC, hv0, hv1⟩ := lit8 k1 (by omega); have hlt1 : (k1 : Int) < 8 := (by omega); have hl1 := hr1.lt; have hmp := @cell_made wb _ 3 k1 _ hC; have hmq := cell_made2 (w := wb) (A := .cells #[.int .i64 0, .int .i64 0, .string ⟨#[]⟩] 40) (t := 3) hC; (first | (with_reducible have hx := cell_kept (grownBy_undrew hg1) (by omega) hC) | (with_reducible have hx := cell_kept2 (grownBy_undrew hg1) (by omega) hC) | (with_reducible have hx := cell_kept3 (grownBy_undrew hg1) (by omega) hC) | skip); (first | (have hxl := World.block_lt_of_cell? _ _ hx; dsimp only at hxl) | skip); (first | (with_reducible have HA := Lib.hid (af_1 (grownBy_undrew hg1) hl0)) | (with_reducible have HA := Lib.hid (af_2 (grownBy_undrew hg1) hl0)) | (with_reducible have HA := Lib.hid (af_3 (grownBy_undrew hg1) hl0)) | skip); (first | (obtain ⟨q0, q1, q2⟩ := HA.out.three; have j0 := HA.out.frozen 0; have j1 := HA.out.frozen 1; have j2 := HA.out.frozen 2; have hal := HA.out.lt) | skip)) | (go_at_call 41; (with_reducible refine (p60 _ (by first | with_reducible exact hr1 | with_reducible exact hr1.alloc _ | with_reducible exact (hr1.alloc _).alloc _)).mono ?_); rintro e wd ⟨k2, rfl, hm0, hm1, hr2, hg2⟩; obtain ⟨k2, rfl⟩ := Int.eq_ofNat_of_zero_le hm0; have hmr := @cell_made wd _ 3 k1 _ hC; have hms := cell_made2 (w := wd) (A := .cells #[.int .i64 0, .int .i64 0, .string ⟨#[]⟩] 40) (t := 3) hC; have hk2 : k2 < 60 := (by omega); (first | have hy := cell_stays hx hg2 (by omega) | have hy := cell_stays hmp hg2 (by omega) | have hy := cell_stays hmq hg2 (by omega) | have hy := cell_stays2 hx hg2 (by omega) | have hy := cell_stays2 hmp hg2 (by omega) | skip); (first | (have hyl := World.block_lt_of_cell? _ _ hy; dsimp only at hyl) | skip); (first | (with_reducible have HZ := Lib.hid (af_4 HA.out hg2 (by omega))) | (with_reducible have HZ := Lib.hid (af_5 HA.out hg2 (by omega))) | (with_reducible have HZ := Lib.hid (af_1 hg2 hl1)) | (with_reducible have HZ := Lib.hid (af_2 hg2 hl1)) | (with_reducible have HZ := Lib.hid (af_3 hg2 hl1)) | skip); (first | (obtain ⟨q0, q1, q2⟩ := HZ.out.three; have j0 := HZ.out.frozen 0; have j1 := HZ.out.frozen 1; have j2 := HZ.out.frozen 2; have hzl := HZ.out.lt) | skip)))
    all_goals
      go_wp2_with fail
      go_meet
      have hK := kbound v1 k2 ⟨hv0, hv1⟩ hk2
      have h1 : W0.grownBy wb (some r) := grownBy_trans (by first | exact grownBy_drew (grownBy_refl _ _) | exact grownBy_drew (World.grownBy_alloc _ _ _) | exact grownBy_drew (grownBy_trans (World.grownBy_alloc _ _ _) (World.grownBy_alloc _ _ _))) hg1
      have h2 : wb.grownBy wd (some r) := grownBy_trans (by first | exact grownBy_refl _ _ | exact World.grownBy_alloc _ _ _ | exact grownBy_trans (World.grownBy_alloc _ _ _) (World.grownBy_alloc _ _ _)) hg2
      have hgw := grownBy_trans HG0.out (grownBy_trans h1 h2)
      have hRd := HRB.out.kept (grownBy_trans h1 h2) (by simp; omega)
      have s1 := h1.size
      first
        | with_reducible exact deed_1 hRd hr2 hgw hK
        | with_reducible exact deed_2 hRd hr2 hgw hK
        | with_reducible exact deed_3 hRd hr2 hgw hK
        | with_reducible exact deed_4 hRd hr2 hgw hlt hK HZ.out (by omega)
        | with_reducible exact deed_5 hRd hr2 hgw hlt hK HZ.out (by omega)
        | (trace_state; fail)
  case rest =>
    obtain ⟨b, k, rfl, hB, hb, hR, hk0, hk1, hrc, hgc⟩ := hcut
    clear HRB HG0 hlw hr0 hl0 p8 p60
    have hlr : r < b := by omega
    obtain ⟨⟨b0, b1, b2⟩, q0, q1, q2⟩ := set_facts hB
    obtain ⟨⟨c0, c1, c2⟩, u0, u1, u2⟩ := set_facts hR
    have HBc := Lib.hid hB
    have HRc := Lib.hid hR
    have HGc := Lib.hid hgc
    clear hB hR hgc
    by_cases k0 : k = 0
    · subst k0
      go_wp2_with fail
      refine (pick_any _ _ _ _ hrc (by omega)).mono ?_
      rintro e w2 ⟨j, rfl, hj0, hj1, hr2, hg2⟩
      go_wp2_with fail
      refine (pick_any _ _ _ _ hr2 (by omega)).mono ?_
      rintro e w3 ⟨i, rfl, hi0, hi1, hr3, hg3⟩
      have g23 := Lib.hid (grownBy_trans hg2 hg3)
      have hB3 := Lib.hid (HBc.out.kept g23.out (by simp; omega))
      have hR3 := Lib.hid (HRc.out.kept g23.out (by simp; omega))
      obtain ⟨⟨b0, b1, b2⟩, q0, q1, q2⟩ := set_facts hB3.out
      have hG2 := Lib.hid (grownBy_trans HGc.out g23.out)
      have hS := Lib.hid (grownBy_set w3 b 1 (.int .i64 (1 + j + i / 19 * 3)))
      have hB4 := Lib.hid (show CellsAt (w3.setCell ⟨b, 1, none⟩ (.int .i64 (1 + j + i / 19 * 3))) b #[.int .i64 0, .int .i64 (1 + j + i / 19 * 3), .string ⟨#[]⟩] 40 from hB3.out.set 1 (.int .i64 (1 + j + i / 19 * 3)))
      have hR4 := Lib.hid (hR3.out.kept hS.out (by simp; omega))
      have hr4 := rd_sets hr3 hS.out (by omega)
      have hG4 := Lib.hid (grown_sets hG2.out hS.out (by omega))
      clear hg2 hg3
      go_wp2_with fail
      refine (odd_any _ _ _ _ hr4 (by omega) (by omega) (by omega)).mono ?_
      rintro e wo ⟨bo, rfl, hro, hgo⟩
      have hBo := Lib.hid (hB4.out.kept hgo (by simp; omega))
      have hRo := Lib.hid (hR4.out.kept hgo (by simp; omega))
      have ggo := Lib.hid (grownBy_trans hG4.out hgo)
      obtain ⟨⟨y0, y1, y2⟩, x0, x1, x2⟩ := set_facts hBo.out
      obtain ⟨⟨t0, t1, t2⟩, v0, v1, v2⟩ := set_facts hRo.out
      cases bo
      · have E := Lib.hid (deed_end (P := P) (K := 0) (N := (1 + j + i / 19 * 3)) (s := ⟨#[]⟩) hRo.out hro (by omega) ggo.out hlt (by first | decide | omega))
        go_wp2_with fail
        exact bodyPost_ret (v := .agg #[.int .i64 0, .int .i64 (1 + j + i / 19 * 3), .string ⟨#[]⟩]) (resDd rfl _ rfl E.out.1) rfl E.out.2
      · have hS2 := Lib.hid (grownBy_set wo b 2 (.string (⟨#[]⟩ ++ ⟨#[120]⟩)))
        have hsz : (⟨#[]⟩ ++ ⟨#[120]⟩ : ByteArray).size ≤ 100 := by rw [ByteArray.size_append]; show (⟨#[]⟩ : ByteArray).size + 1 ≤ 100; first | decide | omega
        have hR2 := Lib.hid (hRo.out.kept hS2.out (by simp; omega))
        obtain ⟨⟨t0', t1', t2'⟩, v0', v1', v2'⟩ := set_facts hR2.out
        have E := Lib.hid (deed_end (P := P) (K := 0) (N := (1 + j + i / 19 * 3)) hR2.out (rd_sets hro hS2.out (by omega)) (by omega) (grown_sets ggo.out hS2.out (by omega)) hlt hsz)
        go_wp2_with fail
        exact bodyPost_ret (v := .agg #[.int .i64 0, .int .i64 (1 + j + i / 19 * 3), .string (⟨#[]⟩ ++ ⟨#[120]⟩)]) (resDd rfl _ rfl E.out.1) rfl E.out.2
    by_cases k1 : k = 1
    · subst k1
      go_wp2_with fail
      refine (true_draw _ _ _ _ hrc (by omega) (by omega) (by omega)).mono ?_
      rintro e w2 ⟨s, rfl, hs, hr2, hg2⟩
      have hB2 := Lib.hid (HBc.out.kept hg2 (by simp; omega))
      have hR2 := Lib.hid (HRc.out.kept hg2 (by simp; omega))
      obtain ⟨⟨b0, b1, b2⟩, q0, q1, q2⟩ := set_facts hB2.out
      have hG2 := Lib.hid (grownBy_trans HGc.out hg2)
      have hS := Lib.hid (grownBy_set w2 b 2 (.string s))
      have hB3 := Lib.hid (show CellsAt (w2.setCell ⟨b, 2, none⟩ (.string s)) b #[.int .i64 1, .int .i64 0, .string s] 40 from hB2.out.set 2 (.string s))
      have hR3 := Lib.hid (hR2.out.kept hS.out (by simp; omega))
      have hr3 := rd_sets hr2 hS.out (by omega)
      have hG3 := Lib.hid (grown_sets hG2.out hS.out (by omega))
      clear hg2
      go_wp2_with fail
      refine (odd_any _ _ _ _ hr3 (by omega) (by omega) (by omega)).mono ?_
      rintro e wo ⟨bo, rfl, hro, hgo⟩
      have hBo := Lib.hid (hB3.out.kept hgo (by simp; omega))
      have hRo := Lib.hid (hR3.out.kept hgo (by simp; omega))
      have ggo := Lib.hid (grownBy_trans hG3.out hgo)
      obtain ⟨⟨y0, y1, y2⟩, x0, x1, x2⟩ := set_facts hBo.out
      obtain ⟨⟨t0, t1, t2⟩, v0, v1, v2⟩ := set_facts hRo.out
      cases bo
      · have E := Lib.hid (deed_end (P := P) (K := 1) (N := 0) (s := s) hRo.out hro (by omega) ggo.out hlt (by omega))
        go_wp2_with fail
        exact bodyPost_ret (v := .agg #[.int .i64 1, .int .i64 0, .string s]) (resDd rfl _ rfl E.out.1) rfl E.out.2
      · have hS2 := Lib.hid (grownBy_set wo b 2 (.string (s ++ ⟨#[120]⟩)))
        have hsz : (s ++ ⟨#[120]⟩ : ByteArray).size ≤ 100 := by rw [ByteArray.size_append]; show s.size + 1 ≤ 100; omega
        have hR2 := Lib.hid (hRo.out.kept hS2.out (by simp; omega))
        obtain ⟨⟨t0', t1', t2'⟩, v0', v1', v2'⟩ := set_facts hR2.out
        have E := Lib.hid (deed_end (P := P) (K := 1) (N := 0) hR2.out (rd_sets hro hS2.out (by omega)) (by omega) (grown_sets ggo.out hS2.out (by omega)) hlt hsz)
        go_wp2_with fail
        exact bodyPost_ret (v := .agg #[.int .i64 1, .int .i64 0, .string (s ++ ⟨#[120]⟩)]) (resDd rfl _ rfl E.out.1) rfl E.out.2
    by_cases k34 : k = 3 ∨ k = 4
    · rcases k34 with rfl | rfl
      · go_wp2_with fail
        refine (pick_any _ _ _ _ hrc (by omega)).mono ?_
        rintro e w1 ⟨j, rfl, hj0, hj1, hr1, hg1⟩
        have hfo : FoOk j 29 36 := by
          obtain rfl | rfl : j = 0 ∨ j = 1 := by omega
          · exact fun w r P h1 h2 => (fo_zero w r P h1 (by omega)).mono fun e w' h3 => h3.up (by omega) (by omega)
          · exact fo_any (.inl rfl)
        go_wp2_with fail
        refine (hfo _ _ _ hr1 (by omega)).mono ?_
        rintro e w2 ⟨s, rfl, _, hs, hr2, hg2⟩
        have g12 := Lib.hid (grownBy_trans hg1 hg2)
        have hB2 := Lib.hid (HBc.out.kept g12.out (by simp; omega))
        have hR2 := Lib.hid (HRc.out.kept g12.out (by simp; omega))
        obtain ⟨⟨b0, b1, b2⟩, q0, q1, q2⟩ := set_facts hB2.out
        have hG2 := Lib.hid (grownBy_trans HGc.out g12.out)
        have hS := Lib.hid (grownBy_set w2 b 2 (.string s))
        have hB3 := Lib.hid (show CellsAt (w2.setCell ⟨b, 2, none⟩ (.string s)) b #[.int .i64 3, .int .i64 0, .string s] 40 from hB2.out.set 2 (.string s))
        have hR3 := Lib.hid (hR2.out.kept hS.out (by simp; omega))
        have hr3 := rd_sets hr2 hS.out (by omega)
        have hG3 := Lib.hid (grown_sets hG2.out hS.out (by omega))
        clear hg1 hg2
        go_wp2_with fail
        refine (odd_any _ _ _ _ hr3 (by omega) (by omega) (by omega)).mono ?_
        rintro e wo ⟨bo, rfl, hro, hgo⟩
        have hBo := Lib.hid (hB3.out.kept hgo (by simp; omega))
        have hRo := Lib.hid (hR3.out.kept hgo (by simp; omega))
        have ggo := Lib.hid (grownBy_trans hG3.out hgo)
        obtain ⟨⟨y0, y1, y2⟩, x0, x1, x2⟩ := set_facts hBo.out
        obtain ⟨⟨t0, t1, t2⟩, v0, v1, v2⟩ := set_facts hRo.out
        cases bo
        · have E := Lib.hid (deed_end (P := P) (K := 3) (N := 0) (s := s) hRo.out hro (by omega) ggo.out hlt (by first | decide | omega))
          go_wp2_with fail
          exact bodyPost_ret (v := .agg #[.int .i64 3, .int .i64 0, .string s]) (resDd rfl _ rfl E.out.1) rfl E.out.2
        · have hS2 := Lib.hid (grownBy_set wo b 2 (.string (s ++ ⟨#[120]⟩)))
          have hsz : (s ++ ⟨#[120]⟩ : ByteArray).size ≤ 100 := by rw [ByteArray.size_append]; show (s : ByteArray).size + 1 ≤ 100; first | decide | omega
          have hR2 := Lib.hid (hRo.out.kept hS2.out (by simp; omega))
          obtain ⟨⟨t0', t1', t2'⟩, v0', v1', v2'⟩ := set_facts hR2.out
          have E := Lib.hid (deed_end (P := P) (K := 3) (N := 0) hR2.out (rd_sets hro hS2.out (by omega)) (by omega) (grown_sets ggo.out hS2.out (by omega)) hlt hsz)
          go_wp2_with fail
          exact bodyPost_ret (v := .agg #[.int .i64 3, .int .i64 0, .string (s ++ ⟨#[120]⟩)]) (resDd rfl _ rfl E.out.1) rfl E.out.2
      · go_wp2_with fail
        refine (pick_any _ _ _ _ hrc (by omega)).mono ?_
        rintro e w1 ⟨j, rfl, hj0, hj1, hr1, hg1⟩
        have hfo : FoOk j 29 36 := by
          obtain rfl | rfl : j = 0 ∨ j = 1 := by omega
          · exact fun w r P h1 h2 => (fo_zero w r P h1 (by omega)).mono fun e w' h3 => h3.up (by omega) (by omega)
          · exact fo_any (.inl rfl)
        go_wp2_with fail
        refine (hfo _ _ _ hr1 (by omega)).mono ?_
        rintro e w2 ⟨s, rfl, _, hs, hr2, hg2⟩
        have g12 := Lib.hid (grownBy_trans hg1 hg2)
        have hB2 := Lib.hid (HBc.out.kept g12.out (by simp; omega))
        have hR2 := Lib.hid (HRc.out.kept g12.out (by simp; omega))
        obtain ⟨⟨b0, b1, b2⟩, q0, q1, q2⟩ := set_facts hB2.out
        have hG2 := Lib.hid (grownBy_trans HGc.out g12.out)
        have hS := Lib.hid (grownBy_set w2 b 2 (.string s))
        have hB3 := Lib.hid (show CellsAt (w2.setCell ⟨b, 2, none⟩ (.string s)) b #[.int .i64 4, .int .i64 0, .string s] 40 from hB2.out.set 2 (.string s))
        have hR3 := Lib.hid (hR2.out.kept hS.out (by simp; omega))
        have hr3 := rd_sets hr2 hS.out (by omega)
        have hG3 := Lib.hid (grown_sets hG2.out hS.out (by omega))
        clear hg1 hg2
        go_wp2_with fail
        refine (odd_any _ _ _ _ hr3 (by omega) (by omega) (by omega)).mono ?_
        rintro e wo ⟨bo, rfl, hro, hgo⟩
        have hBo := Lib.hid (hB3.out.kept hgo (by simp; omega))
        have hRo := Lib.hid (hR3.out.kept hgo (by simp; omega))
        have ggo := Lib.hid (grownBy_trans hG3.out hgo)
        obtain ⟨⟨y0, y1, y2⟩, x0, x1, x2⟩ := set_facts hBo.out
        obtain ⟨⟨t0, t1, t2⟩, v0, v1, v2⟩ := set_facts hRo.out
        cases bo
        · have E := Lib.hid (deed_end (P := P) (K := 4) (N := 0) (s := s) hRo.out hro (by omega) ggo.out hlt (by first | decide | omega))
          go_wp2_with fail
          exact bodyPost_ret (v := .agg #[.int .i64 4, .int .i64 0, .string s]) (resDd rfl _ rfl E.out.1) rfl E.out.2
        · have hS2 := Lib.hid (grownBy_set wo b 2 (.string (s ++ ⟨#[120]⟩)))
          have hsz : (s ++ ⟨#[120]⟩ : ByteArray).size ≤ 100 := by rw [ByteArray.size_append]; show (s : ByteArray).size + 1 ≤ 100; first | decide | omega
          have hR2 := Lib.hid (hRo.out.kept hS2.out (by simp; omega))
          obtain ⟨⟨t0', t1', t2'⟩, v0', v1', v2'⟩ := set_facts hR2.out
          have E := Lib.hid (deed_end (P := P) (K := 4) (N := 0) hR2.out (rd_sets hro hS2.out (by omega)) (by omega) (grown_sets ggo.out hS2.out (by omega)) hlt hsz)
          go_wp2_with fail
          exact bodyPost_ret (v := .agg #[.int .i64 4, .int .i64 0, .string (s ++ ⟨#[120]⟩)]) (resDd rfl _ rfl E.out.1) rfl E.out.2
    have f0 : (k == 0) = false := beq_false_of_ne k0
    have f1 : (k == 1) = false := beq_false_of_ne k1
    have f3 : (k == 3) = false := beq_false_of_ne fun e => k34 (.inl e)
    have f4 : (k == 4) = false := beq_false_of_ne fun e => k34 (.inr e)
    clear k0 k1 k34
    go_wp2_with fail
    refine (odd_any _ _ _ _ hrc (by omega) (by omega) (by omega)).mono ?_
    rintro e wo ⟨bo, rfl, hro, hgo⟩
    have hBo := Lib.hid (HBc.out.kept hgo (by simp; omega))
    have hRo := Lib.hid (HRc.out.kept hgo (by simp; omega))
    have ggo := Lib.hid (grownBy_trans HGc.out hgo)
    obtain ⟨⟨y0, y1, y2⟩, x0, x1, x2⟩ := set_facts hBo.out
    obtain ⟨⟨t0, t1, t2⟩, v0, v1, v2⟩ := set_facts hRo.out
    cases bo
    · have E := Lib.hid (deed_end (P := P) (K := k) (N := 0) (s := ⟨#[]⟩) hRo.out hro (by omega) ggo.out hlt (by first | decide | omega))
      go_wp2_with fail
      exact bodyPost_ret (v := .agg #[.int .i64 k, .int .i64 0, .string ⟨#[]⟩]) (resDd rfl _ rfl E.out.1) rfl E.out.2
    · have hS2 := Lib.hid (grownBy_set wo b 2 (.string (⟨#[]⟩ ++ ⟨#[120]⟩)))
      have hsz : (⟨#[]⟩ ++ ⟨#[120]⟩ : ByteArray).size ≤ 100 := by rw [ByteArray.size_append]; show (⟨#[]⟩ : ByteArray).size + 1 ≤ 100; first | decide | omega
      have hR2 := Lib.hid (hRo.out.kept hS2.out (by simp; omega))
      obtain ⟨⟨t0', t1', t2'⟩, v0', v1', v2'⟩ := set_facts hR2.out
      have E := Lib.hid (deed_end (P := P) (K := k) (N := 0) hR2.out (rd_sets hro hS2.out (by omega)) (by omega) (grown_sets ggo.out hS2.out (by omega)) hlt hsz)
      go_wp2_with fail
      exact bodyPost_ret (v := .agg #[.int .i64 k, .int .i64 0, .string (⟨#[]⟩ ++ ⟨#[120]⟩)]) (resDd rfl _ rfl E.out.1) rfl E.out.2

end Go.Proofs.YtlnffpofbfigaaaGreatDoor
