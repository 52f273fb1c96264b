/-
  The model's PutInto.
-/
import Derived.Test.YtbhfbpmfbknalaaTSz
import Derived.Test.YtbhfbpmfbknalaaTPut
import Derived.Deep.AppendLies
namespace Go.Proofs.Ytbhfbpmfbknalaa
open Go.RowKit

def SpRel (x y z : List Int) (sx sy sz : Value) (w : World) (i : Value) (wr : World) : Prop :=
  ∃ k : Nat, k ≤ 9 ∧ i = .int .i64 k ∧ ∃ a cap, T1 wr (w.heap.size + 4) (.slice a k cap) ∧ OwnI wr (w.heap.size + 5) a cap (lK (putK x y z) k) ∧ T1 wr (w.heap.size + 3) (.slice none 0 0) ∧ T1 wr w.heap.size sx ∧ T1 wr (w.heap.size + 1) sy ∧ T1 wr (w.heap.size + 2) sz ∧ w.grownBy wr none
theorem sp_start (x y z : List Int) (sx sy sz : Value) (w : World) : SpRel x y z sx sy sz w (.int .i64 0) (((((w.alloc (.cells #[sx] 25)).alloc (.cells #[sy] 25)).alloc (.cells #[sz] 25)).alloc (.cells #[.slice none 0 0] 25)).alloc (.cells #[.slice none 0 0] 25)) := by
  obtain ⟨t1, t2, t3, t4, g⟩ := put_new w sx sy sz (.slice none 0 0)
  generalize hw : (((w.alloc (.cells #[sx] 25)).alloc (.cells #[sy] 25)).alloc (.cells #[sz] 25)).alloc (.cells #[.slice none 0 0] 25) = wb at *
  have hs : wb.heap.size = w.heap.size + 4 := by rw [← hw]; simp
  have g2 : wb.grownBy (wb.alloc (.cells #[.slice none 0 0] 25)) none := World.grownBy_alloc _ _ none
  have t5 := T1.new wb (.slice none 0 0)
  rw [hs] at t5
  exact ⟨0, by omega, rfl, none, 0, t5, OwnI.nil _ _, t4.grown g2, t1.grown g2, t2.grown g2, t3.grown g2, grownBy_trans g g2⟩
theorem sp_step {x y z : List Int} {sx sy sz : Value} {w wr w3 : World} {k : Nat} (hk : k < 9) {a : Option Addr} {cap : Nat} {v' : Value} (hT : T1 wr (w.heap.size + 4) (.slice a k cap)) (hown : OwnI wr (w.heap.size + 5) a cap (lK (putK x y z) k)) (hZ : T1 wr (w.heap.size + 3) (.slice none 0 0))
    (h1 : T1 wr w.heap.size sx) (h2 : T1 wr (w.heap.size + 1) sy) (h3 : T1 wr (w.heap.size + 2) sz) (hg : w.grownBy wr none)
    (ho : w3.ownsRow (w.heap.size + 5) 3 1 v' ((lK (putK x y z) k).length + 1) ((lK (putK x y z) k).map (Value.int .i64) ++ [.int .i64 (putK x y z k)])) (hgr : wr.grownBy w3 (Value.slice a (lK (putK x y z) k).length cap).ownBlock) :
    ∃ a' cap', v' = .slice a' (k + 1) cap' ∧ T1 w3 (w.heap.size + 4) (.slice a k cap) ∧ SpRel x y z sx sy sz w (.int .i64 ((k + 1 : Nat) : Int)) (w3.setCell ⟨w.heap.size + 4, 0, none⟩ v') := by
  obtain ⟨h4, a', cap', rfl, h5, hO, hG⟩ := ap_step (x := putK x y z k) hT (by omega) hown hg ho hgr
  have kp : ∀ {B : Nat} {s : Value}, T1 wr B s → B < w.heap.size + 4 → T1 (w3.setCell ⟨w.heap.size + 4, 0, none⟩ (.slice a' ((lK (putK x y z) k).length + 1) cap')) B s := fun {B} {s} hB hlt => by
    refine (hB.kept hgr fun e => ?_).kept (grownBy_set w3 (w.heap.size + 4) 0 _) (by simp; omega)
    have := World.ownsRow.lt hown B e.symm
    omega
  have q1 := kp hZ (by omega)
  have q2 := kp h1 (by omega)
  have q3 := kp h2 (by omega)
  have q4 := kp h3 (by omega)
  rw [lK_len] at h5 hO hG q1 q2 q3 q4 ⊢
  exact ⟨a', cap', rfl, h4, k + 1, hk, rfl, a', cap', h5, by rw [lK_step]; exact hO, q1, q2, q3, q4, hG⟩
theorem held_sp {w w1 w2 : World} {p q r s u t : Addr} {a b c d e f : Value} {row : Option Nat} (h : w1.cell? p = some a ∧ w1.cell? q = some b ∧ w1.cell? r = some c ∧ w1.cell? s = some d ∧ w1.cell? u = some e ∧ w1.cell? t = some f ∧ w.grownBy w1 none) (g : w1.grownBy w2 row) (gg : w.grownBy w2 none)
    (n1 : some p.block ≠ row) (n2 : some q.block ≠ row) (n3 : some r.block ≠ row) (n4 : some s.block ≠ row) (n5 : some u.block ≠ row) (n6 : some t.block ≠ row) :
    w2.cell? p = some a ∧ w2.cell? q = some b ∧ w2.cell? r = some c ∧ w2.cell? s = some d ∧ w2.cell? u = some e ∧ w2.cell? t = some f ∧ w.grownBy w2 none :=
  ⟨g.cell h.1 n1, g.cell h.2.1 n2, g.cell h.2.2.1 n3, g.cell h.2.2.2.1 n4, g.cell h.2.2.2.2.1 n5, g.cell h.2.2.2.2.2.1 n6, gg⟩

set_option maxHeartbeats 8000000 in
theorem sput_yes (a b c : Option Addr) (ca cb cc : Nat) (x y z : List Int) (w : World) (hx : IntsAt w a x) (hy : IntsAt w b y) (hz : IntsAt w c z) (tx : triB x = true) (ty : triB y = true) (tz : triB z = true) :
    Calls Try.prog 32 #[.agg #[.slice a x.length ca], .agg #[.slice b y.length cb], .agg #[.slice c z.length cc]] w (TabPost (putL x y z) w) := by
  obtain ⟨i0, hi, hz0, hz1, hz2⟩ := info_parts infoInt
  have hst := Lib.hid (sp_start x y z (.slice a x.length ca) (.slice b y.length cb) (.slice c z.length cc) w)
  have HX := Lib.hid hx
  have HY := Lib.hid hy
  have HZ := Lib.hid hz
  have TX := Lib.hid tx
  have TY := Lib.hid ty
  have TZ := Lib.hid tz
  clear hx hy hz tx ty tz
  go_enter Try.func32, Try.ntmps32
  go_wp2_with fail
  go_loopw [8] (fun i wr => SpRel x y z (.slice a x.length ca) (.slice b y.length cb) (.slice c z.length cc) w i wr) (fun i _ => 9 - (intOf i).toNat)
  case atStart => exact hst.out
  case round =>
    obtain ⟨k, hk, rfl, a1, cap1, hT, hown, hR, h1, h2, h3, hgr⟩ := hrel
    by_cases hlt : k < 9
    · have m1 := h1.cell
      have c1 := stok_any a ca x wr (HX.out.grown hgr)
      rw [TX.out] at c1
      have H1 := Lib.hid h1
      have H2 := Lib.hid h2
      have H3 := Lib.hid h3
      have HR := Lib.hid hR
      have HT := Lib.hid hT
      have HO := Lib.hid hown
      have HG := Lib.hid hgr
      have HLT := Lib.hid hlt
      clear h1 h2 h3 hR hT hown hgr hlt hk
      have i0' : (0 : Int) ≤ (k : Int) := by omega
      have i9' : (k : Int) < 9 := by have := HLT.out; omega
      go_wp2_with fail
      refine c1.mono ?_
      rintro e w1 ⟨rfl, g1⟩
      have m2 := (H2.out.grown g1).cell
      have c2 := stok_any b cb y w1 (HY.out.grown (grownBy_trans HG.out g1))
      rw [TY.out] at c2
      clear c1 m1
      go_wp2_with fail
      refine c2.mono ?_
      rintro e w2 ⟨rfl, g2⟩
      have m3 := (H3.out.grown (grownBy_trans g1 g2)).cell
      have c3 := stok_any c cc z w2 (HZ.out.grown (grownBy_trans HG.out (grownBy_trans g1 g2)))
      rw [TZ.out] at c3
      clear c2 m2
      go_wp2_with fail
      refine c3.mono ?_
      rintro e w3 ⟨rfl, g3⟩
      have g13 := grownBy_trans g1 (grownBy_trans g2 g3)
      clear c3 m3 g1 g2 g3
      go_wp2_with fail
      -- the region
      have GG := Lib.hid (grownBy_trans HG.out g13)
      have hlx := (triB_of TX.out).1
      have hly := (triB_of TY.out).1
      have hlz := (triB_of TZ.out).1
      have bu := (triB_of TY.out).2 k HLT.out
      have bv := (triB_of TZ.out).2 k HLT.out
      rcases HX.out.2 with h0 | ⟨bx, ox, rfl, hbx, hcx⟩
      · rw [h0] at hlx; simp at hlx
      rcases HY.out.2 with h0 | ⟨by', oy, rfl, hby, hcy⟩
      · rw [h0] at hly; simp at hly
      rcases HZ.out.2 with h0 | ⟨bz, oz, rfl, hbz, hcz⟩
      · rw [h0] at hlz; simp at hlz
      obtain ⟨U, hU⟩ := Int.eq_ofNat_of_zero_le bu.1
      obtain ⟨V, hV⟩ := Int.eq_ofNat_of_zero_le bv.1
      have hcu := GG.out.cell (hcy k (by have := HLT.out; omega)) (by simp)
      have hcv := GG.out.cell (hcz k (by have := HLT.out; omega)) (by simp)
      have hct := GG.out.cell (hcx (3 * U + V) (by omega)) (by simp)
      have hP : Hid (putK x y z k = x.getD (3 * U + V) 0) := Lib.hid (by
        unfold putK
        rw [hU, hV]
        congr 1)
      have hUV : 3 * U + V < 9 := by omega
      rw [hU] at hcu
      rw [hV] at hcv
      have j0 : (0 : Int) ≤ 3 * (U : Int) + (V : Int) := by omega
      have j1 : 3 * (U : Int) + (V : Int) < (x.length : Int) := by omega
      have j2 : (k : Int) < (y.length : Int) := by omega
      have j3 : (k : Int) < (z.length : Int) := by omega
      have e9 : (3 * (U : Int) + (V : Int)).toNat = 3 * U + V := by omega
      have wU : IntKind.i64.wrap (3 * (U : Int)) = 3 * (U : Int) := IntWalk.i64_in _ (by omega)
      have wV : IntKind.i64.wrap (3 * (U : Int) + (V : Int)) = 3 * (U : Int) + (V : Int) := IntWalk.i64_in _ (by omega)
      generalize x.getD (3 * U + V) 0 = r at *
      have hb : w3.drew.cell? ⟨w.heap.size, 0, none⟩ = some (.slice (some ⟨bx, ox, none⟩) x.length ca) ∧ w3.drew.cell? ⟨w.heap.size + 1, 0, none⟩ = some (.slice (some ⟨by', oy, none⟩) y.length cb) ∧ w3.drew.cell? ⟨w.heap.size + 2, 0, none⟩ = some (.slice (some ⟨bz, oz, none⟩) z.length cc) ∧
          w3.drew.cell? ⟨by', oy + k, none⟩ = some (.int .i64 (U : Int)) ∧ w3.drew.cell? ⟨bz, oz + k, none⟩ = some (.int .i64 (V : Int)) ∧ w3.drew.cell? ⟨bx, ox + (3 * U + V), none⟩ = some (.int .i64 r) ∧ w.grownBy w3.drew none :=
        ⟨(H1.out.grown g13).cell, (H2.out.grown g13).cell, (H3.out.grown g13).cell, hcu, hcv, hct, grownBy_drew GG.out⟩
      have tT := HT.out.grown g13
      have n1 := tT.cell
      have f1 := tT.free
      have hO3 := World.ownsRow.kept (own_k HO.out) g13 (by cases (Value.slice a1 k cap1).ownBlock <;> simp)
      have HO3 := Lib.hid hO3
      have Hs := Lib.hid (fun w4 v' ho hg => sp_step (w3 := w4) (v' := v') HLT.out HT.out HO.out HR.out H1.out H2.out H3.out HG.out ho (grownBy_trans (show wr.grownBy w3 _ from ⟨g13.os, g13.tape, g13.output, g13.size, fun i hi _ => g13.block i hi (by simp)⟩) hg))
      have hl5 := tT.lt
      have n2 : (w3.alloc (.cells #[.int .i64 r] 3)).cell? ⟨w.heap.size + 4, 0, none⟩ = some (.slice a1 k cap1) := (World.grownBy_alloc w3 _ none).cell n1 (by simp)
      have HN : Hid (∀ B, B < w.heap.size + 5 → some B ≠ (Value.slice a1 k cap1).ownBlock) := fun B hB e => by
        have := World.ownsRow.lt HO3.out B e.symm
        omega
      have HB : Hid ((w3.alloc (.cells #[.int .i64 r] 3)).drew.ownsRow (w.heap.size + 5) 3 1 (.slice a1 k cap1) k ((lK (putK x y z) k).map (Value.int .i64)) ∧ ∀ j u, ([.int .i64 r] : List Value)[j]? = some u → (w3.alloc (.cells #[.int .i64 r] 3)).drew.cell? ((⟨w3.heap.size, 0, none⟩ : Addr).add j) = some u) :=
        ⟨World.ownsRow.kept HO3.out (grownBy_drew (World.grownBy_alloc w3 (.cells #[.int .i64 r] 3) none)) (by cases (Value.slice a1 k cap1).ownBlock <;> simp), fun j u hj => by
          match j, hj with
          | 0, hj => simp at hj; subst hj; simp [Addr.add]⟩
      have hone : ∀ u ∈ ([.int .i64 r] : List Value), u.oneCell' = true := fun u hu => by simp at hu; subst hu; rfl
      have hk63 : k + 1 ≤ maxLen := by have := HLT.out; unfold maxLen; omega
      have hkb : (k + 1) * 8 ≤ 140737488355328 := by have := HLT.out; omega
      clear hcu hcv hct hcx hcy hcz hU hV bu bv hlx hly hlz tT hO3
      refine wp_region_noPanic ?_
      refine wp_region_held_drew (S := fun w' => w'.cell? ⟨w.heap.size, 0, none⟩ = some (.slice (some ⟨bx, ox, none⟩) x.length ca) ∧ w'.cell? ⟨w.heap.size + 1, 0, none⟩ = some (.slice (some ⟨by', oy, none⟩) y.length cb) ∧ w'.cell? ⟨w.heap.size + 2, 0, none⟩ = some (.slice (some ⟨bz, oz, none⟩) z.length cc) ∧
          w'.cell? ⟨by', oy + k, none⟩ = some (.int .i64 (U : Int)) ∧ w'.cell? ⟨bz, oz + k, none⟩ = some (.int .i64 (V : Int)) ∧ w'.cell? ⟨bx, ox + (3 * U + V), none⟩ = some (.int .i64 r) ∧ w.grownBy w' none) (by kernel_rfl) hb (fun hH => ?_)
      refine take_an 0 26 (v := ?v1) rfl rfl (by kernel_rfl) (by kernel_rfl) (by kernel_rfl) (fun _ _ _ h => h) (by rfl) ?y1 hH ?r1
      case y1 => (rintro w ⟨p1, p2, p3, p4, p5, p6, p7⟩; go_simp; try with_reducible rfl)
      simp only [Act.put, List.setIfInBounds_toArray, List.set_cons_zero, List.set_cons_succ]
      refine take_an 2 28 (v := ?v2) rfl rfl (by kernel_rfl) (by kernel_rfl) (by kernel_rfl) (fun _ _ _ h => h) (by rfl) ?y2 hH ?r2
      case y2 => (rintro w ⟨p1, p2, p3, p4, p5, p6, p7⟩; go_simp; try with_reducible rfl)
      simp only [Act.put, List.setIfInBounds_toArray, List.set_cons_zero, List.set_cons_succ]
      refine take_an 3 29 (v := ?v3) rfl rfl (by kernel_rfl) (by kernel_rfl) (by kernel_rfl) (fun _ _ _ h => h) (by rfl) ?y3 hH ?r3
      case y3 => (rintro w ⟨p1, p2, p3, p4, p5, p6, p7⟩; go_simp; try with_reducible rfl)
      simp only [Act.put, List.setIfInBounds_toArray, List.set_cons_zero, List.set_cons_succ]
      refine take_an 4 30 (v := ?v4) rfl rfl (by kernel_rfl) (by kernel_rfl) (by kernel_rfl) (fun _ _ _ h => h) (by rfl) ?y4 hH ?r4
      case y4 => (rintro w ⟨p1, p2, p3, p4, p5, p6, p7⟩; go_simp; try with_reducible rfl)
      simp only [Act.put, List.setIfInBounds_toArray, List.set_cons_zero, List.set_cons_succ]
      refine take_an 5 31 (v := ?v5) rfl rfl (by kernel_rfl) (by kernel_rfl) (by kernel_rfl) (fun _ _ _ h => h) (by rfl) ?y5 hH ?r5
      case y5 => (rintro w ⟨p1, p2, p3, p4, p5, p6, p7⟩; go_simp; try with_reducible rfl)
      simp only [Act.put, List.setIfInBounds_toArray, List.set_cons_zero, List.set_cons_succ]
      refine take_an 6 32 (v := ?v6) rfl rfl (by kernel_rfl) (by kernel_rfl) (by kernel_rfl) (fun _ _ _ h => h) (by rfl) ?y6 hH ?r6
      case y6 => (rintro w ⟨p1, p2, p3, p4, p5, p6, p7⟩; go_simp; try with_reducible rfl)
      simp only [Act.put, List.setIfInBounds_toArray, List.set_cons_zero, List.set_cons_succ]
      refine take_an 7 33 (v := ?v7) rfl rfl (by kernel_rfl) (by kernel_rfl) (by kernel_rfl) (fun _ _ _ h => h) (by rfl) ?y7 hH ?r7
      case y7 => (rintro w ⟨p1, p2, p3, p4, p5, p6, p7⟩; go_simp; try with_reducible rfl)
      simp only [Act.put, List.setIfInBounds_toArray, List.set_cons_zero, List.set_cons_succ]
      refine take_an 8 34 (v := ?v8) rfl rfl (by kernel_rfl) (by kernel_rfl) (by kernel_rfl) (fun _ _ _ h => h) (by rfl) ?y8 hH ?r8
      case y8 => (rintro w ⟨p1, p2, p3, p4, p5, p6, p7⟩; go_simp; try with_reducible rfl)
      simp only [Act.put, List.setIfInBounds_toArray, List.set_cons_zero, List.set_cons_succ]
      refine take_an 9 35 (v := ?v9) rfl rfl (by kernel_rfl) (by kernel_rfl) (by kernel_rfl) (fun _ _ _ h => h) (by rfl) ?y9 hH ?r9
      case y9 => (rintro w ⟨p1, p2, p3, p4, p5, p6, p7⟩; go_simp; try with_reducible rfl)
      simp only [Act.put, List.setIfInBounds_toArray, List.set_cons_zero, List.set_cons_succ]
      refine take_an 10 36 (v := ?v10) rfl rfl (by kernel_rfl) (by kernel_rfl) (by kernel_rfl) (fun _ _ _ h => h) (by rfl) ?y10 hH ?r10
      case y10 => (rintro w ⟨p1, p2, p3, p4, p5, p6, p7⟩; go_simp; try with_reducible rfl)
      simp only [Act.put, List.setIfInBounds_toArray, List.set_cons_zero, List.set_cons_succ]
      refine take_an 11 37 (v := ?v11) rfl rfl (by kernel_rfl) (by kernel_rfl) (by kernel_rfl) (fun _ _ _ h => h) (by rfl) ?y11 hH ?r11
      case y11 => (rintro w ⟨p1, p2, p3, p4, p5, p6, p7⟩; go_simp; try with_reducible rfl)
      simp only [Act.put, List.setIfInBounds_toArray, List.set_cons_zero, List.set_cons_succ]
      refine take_an 12 38 (v := ?v12) rfl rfl (by kernel_rfl) (by kernel_rfl) (by kernel_rfl) (fun _ _ _ h => h) (by rfl) ?y12 hH ?r12
      case y12 => (rintro w ⟨p1, p2, p3, p4, p5, p6, p7⟩; go_simp; try with_reducible rfl)
      simp only [Act.put, List.setIfInBounds_toArray, List.set_cons_zero, List.set_cons_succ]
      refine take_an 13 39 (v := ?v13) rfl rfl (by kernel_rfl) (by kernel_rfl) (by kernel_rfl) (fun _ _ _ h => h) (by rfl) ?y13 hH ?r13
      case y13 => (rintro w ⟨p1, p2, p3, p4, p5, p6, p7⟩; go_simp; try with_reducible rfl)
      simp only [Act.put, List.setIfInBounds_toArray, List.set_cons_zero, List.set_cons_succ]
      refine take_an 14 40 (v := ?v14) rfl rfl (by kernel_rfl) (by kernel_rfl) (by kernel_rfl) (fun _ _ _ h => h) (by rfl) ?y14 hH ?r14
      case y14 => (rintro w ⟨p1, p2, p3, p4, p5, p6, p7⟩; go_simp; try with_reducible rfl)
      simp only [Act.put, List.setIfInBounds_toArray, List.set_cons_zero, List.set_cons_succ]
      refine take_an 15 41 (v := ?v15) rfl rfl (by kernel_rfl) (by kernel_rfl) (by kernel_rfl) (fun _ _ _ h => h) (by rfl) ?y15 hH ?r15
      case y15 => (rintro w ⟨p1, p2, p3, p4, p5, p6, p7⟩; go_simp; try with_reducible rfl)
      simp only [Act.put, List.setIfInBounds_toArray, List.set_cons_zero, List.set_cons_succ]
      refine take_an 16 42 (v := ?v16) rfl rfl (by kernel_rfl) (by kernel_rfl) (by kernel_rfl) (fun _ _ _ h => h) (by rfl) ?y16 hH ?r16
      case y16 => (rintro w ⟨p1, p2, p3, p4, p5, p6, p7⟩; go_simp; try with_reducible rfl)
      simp only [Act.put, List.setIfInBounds_toArray, List.set_cons_zero, List.set_cons_succ]
      refine take_an 17 43 (v := ?v17) rfl rfl (by kernel_rfl) (by kernel_rfl) (by kernel_rfl) (fun _ _ _ h => h) (by rfl) ?y17 hH ?r17
      case y17 => (rintro w ⟨p1, p2, p3, p4, p5, p6, p7⟩; go_simp; try with_reducible rfl)
      simp only [Act.put, List.setIfInBounds_toArray, List.set_cons_zero, List.set_cons_succ]
      refine wpAnyH_ready (rs := [1, 18]) (by kernel_rfl) (by simp) ?_
      refine AllReadyH.cons rfl (fun K hK => ?_) (AllReadyH.cons rfl (fun K hK => ?_) AllReadyH.nil)
      · go_simp
        refine hK.out _ _ (hH) (fun hA => ?_)
        clear hK K
        try go_frame
        refine wpAnyH_ready (rs := [18]) (by kernel_rfl) (by simp) ?_
        refine AllReadyH.cons rfl (fun K hK => ?_) AllReadyH.nil
        go_simp
        refine hK.out _ _ (held_sp hA (World.grownBy_alloc _ _ none) (grownBy_trans hA.2.2.2.2.2.2 (World.grownBy_alloc _ _ none)) (by simp) (by simp) (by simp) (by simp) (by simp) (by simp)) (fun hB => ?_)
        clear hK K
        try go_frame
        refine wpAnyH_ready (rs := [19]) (by kernel_rfl) (by simp) ?_
        refine AllReadyH.cons rfl (fun K hK => ?_) AllReadyH.nil
        refine step_append_lies _ (by rfl) _ _ _ (by rfl) (w.heap.size + 5) 3 i0 (.int .i64 0) 1 8 Try.underlying23 hi hz0 hz1 hz2 (by rfl) (by decide) (.slice a1 k cap1) k _ (by rfl) HB.out.1 ⟨w3.heap.size, 0, none⟩ 1 1 [.int .i64 r] (by rfl) (by rfl) HB.out.2 hone (by omega) hk63 hkb (by simp; omega) (w3.heap.size + 1) (by simp) ?_
        intro g cap4 w4 hown4 hgrow hat hlt4
        have hgr4 : w3.grownBy w4 (Value.slice a1 k cap1).ownBlock := grownBy_trans (grownBy_drew (World.grownBy_alloc w3 _ _)) hgrow
        have hPx := hP.out
        have hown5 : w4.ownsRow (w.heap.size + 5) 3 1 (.slice (some ⟨g, 0, none⟩) (k + 1) cap4) ((lK (putK x y z) k).length + 1) ((lK (putK x y z) k).map (Value.int .i64) ++ [.int .i64 (putK x y z k)]) := by rw [hPx, lK_len]; exact hown4
        obtain ⟨a', cap', e', T4, RR⟩ := Hs.out w4 _ hown5 (by rw [lK_len]; exact hgr4)
        have HRR := Lib.hid RR
        have gw4 : w.grownBy w4 none := grownBy_row GG.out HO3.out (by omega) hgr4
        have q1 := T4.cell
        have q2 := T4.free
        clear hown4 hown5 hat hlt4 T4 RR e'
        refine hK.out _ _ (held_sp hB hgrow gw4 (HN.out _ (by simp)) (HN.out _ (by simp)) (HN.out _ (by simp)) (HN.out _ (by simp; omega)) (HN.out _ (by simp; omega)) (HN.out _ (by simp; omega))) (fun h9 => ?_)
        clear hK K
        try go_frame
        refine take_an 20 46 (v := ?v18) rfl rfl (by kernel_rfl) (by kernel_rfl) (by kernel_rfl) (fun _ _ _ h => h) (by rfl) ?y18 h9 ?r18
        case y18 => (rintro w ⟨p1, p2, p3, p4, p5, p6, p7⟩; go_simp; try with_reducible rfl)
        go_frame
        refine wpAnyH_ready (rs := [21]) (by kernel_rfl) (by simp) ?_
        refine AllReadyH.cons rfl (fun K hK => ?_) AllReadyH.nil
        go_simp
        refine hK.out _ _ (held_sp h9 (grownBy_set w4 (w.heap.size + 4) 0 _) (grow_at gw4 (grownBy_set w4 (w.heap.size + 4) 0 _) (by omega)) (by simp) (by simp) (by simp) (by simp; omega) (by simp; omega) (by simp; omega)) (fun h10 => ?_)
        clear hK K
        try go_frame
        refine wpAnyH_done (by kernel_rfl) ?_ _
        refine NoPanic.normal ?_
        go_wp2_with fail
        go_roundw
        case rel => exact HRR.out
        case measure => have := HLT.out; simp [intOf]; omega
      · go_simp
        refine hK.out _ _ (held_sp hH (World.grownBy_alloc _ _ none) (grownBy_trans hH.2.2.2.2.2.2 (World.grownBy_alloc _ _ none)) (by simp) (by simp) (by simp) (by simp) (by simp) (by simp)) (fun hA => ?_)
        clear hK K
        try go_frame
        refine wpAnyH_ready (rs := [1]) (by kernel_rfl) (by simp) ?_
        refine AllReadyH.cons rfl (fun K hK => ?_) AllReadyH.nil
        go_simp
        refine hK.out _ _ (hA) (fun hB => ?_)
        clear hK K
        try go_frame
        refine wpAnyH_ready (rs := [19]) (by kernel_rfl) (by simp) ?_
        refine AllReadyH.cons rfl (fun K hK => ?_) AllReadyH.nil
        refine step_append_lies _ (by rfl) _ _ _ (by rfl) (w.heap.size + 5) 3 i0 (.int .i64 0) 1 8 Try.underlying23 hi hz0 hz1 hz2 (by rfl) (by decide) (.slice a1 k cap1) k _ (by rfl) HB.out.1 ⟨w3.heap.size, 0, none⟩ 1 1 [.int .i64 r] (by rfl) (by rfl) HB.out.2 hone (by omega) hk63 hkb (by simp; omega) (w3.heap.size + 1) (by simp) ?_
        intro g cap4 w4 hown4 hgrow hat hlt4
        have hgr4 : w3.grownBy w4 (Value.slice a1 k cap1).ownBlock := grownBy_trans (grownBy_drew (World.grownBy_alloc w3 _ _)) hgrow
        have hPx := hP.out
        have hown5 : w4.ownsRow (w.heap.size + 5) 3 1 (.slice (some ⟨g, 0, none⟩) (k + 1) cap4) ((lK (putK x y z) k).length + 1) ((lK (putK x y z) k).map (Value.int .i64) ++ [.int .i64 (putK x y z k)]) := by rw [hPx, lK_len]; exact hown4
        obtain ⟨a', cap', e', T4, RR⟩ := Hs.out w4 _ hown5 (by rw [lK_len]; exact hgr4)
        have HRR := Lib.hid RR
        have gw4 : w.grownBy w4 none := grownBy_row GG.out HO3.out (by omega) hgr4
        have q1 := T4.cell
        have q2 := T4.free
        clear hown4 hown5 hat hlt4 T4 RR e'
        refine hK.out _ _ (held_sp hB hgrow gw4 (HN.out _ (by simp)) (HN.out _ (by simp)) (HN.out _ (by simp)) (HN.out _ (by simp; omega)) (HN.out _ (by simp; omega)) (HN.out _ (by simp; omega))) (fun h9 => ?_)
        clear hK K
        try go_frame
        refine take_an 20 46 (v := ?v19) rfl rfl (by kernel_rfl) (by kernel_rfl) (by kernel_rfl) (fun _ _ _ h => h) (by rfl) ?y19 h9 ?r19
        case y19 => (rintro w ⟨p1, p2, p3, p4, p5, p6, p7⟩; go_simp; try with_reducible rfl)
        go_frame
        refine wpAnyH_ready (rs := [21]) (by kernel_rfl) (by simp) ?_
        refine AllReadyH.cons rfl (fun K hK => ?_) AllReadyH.nil
        go_simp
        refine hK.out _ _ (held_sp h9 (grownBy_set w4 (w.heap.size + 4) 0 _) (grow_at gw4 (grownBy_set w4 (w.heap.size + 4) 0 _) (by omega)) (by simp) (by simp) (by simp) (by simp; omega) (by simp; omega) (by simp; omega)) (fun h10 => ?_)
        clear hK K
        try go_frame
        refine wpAnyH_done (by kernel_rfl) ?_ _
        refine NoPanic.normal ?_
        go_wp2_with fail
        go_roundw
        case rel => exact HRR.out
        case measure => have := HLT.out; simp [intOf]; omega
    · obtain rfl : k = 9 := by omega
      have n1 := hT.cell
      have n0 := hR.cell
      have d0 := hR.free
      have hO2 : OwnI (wr.setCell ⟨w.heap.size + 3, 0, none⟩ (.slice a1 9 cap1)) w.heap.size a1 cap1 (putL x y z) := by
        refine own_lower (World.ownsRow.kept hown (grownBy_set wr (w.heap.size + 3) 0 _) (.inr fun e => ?_)) (by omega)
        have := World.ownsRow.lt hown _ e
        omega
      have HO := Lib.hid hO2
      have HG := Lib.hid (grow_at hgr (grownBy_set wr (w.heap.size + 3) 0 (.slice a1 9 cap1)) (by omega))
      have HZ2 := Lib.hid (T1.set (w := wr) (v := .slice a1 9 cap1) hR)
      clear hT hown hR hgr hO2 h1 h2 h3
      go_wp2_with fail
      exact bodyPost_ret (resT1 rfl _ rfl HZ2.out) rfl ⟨a1, cap1, by rfl, HO.out, HG.out⟩

def SpZ (sx sy sz : Value) (w : World) (i : Value) (wr : World) : Prop :=
  i = .int .i64 0 ∧ T1 wr (w.heap.size + 4) (.slice none 0 0) ∧ T1 wr (w.heap.size + 3) (.slice none 0 0) ∧ T1 wr w.heap.size sx ∧ T1 wr (w.heap.size + 1) sy ∧ T1 wr (w.heap.size + 2) sz ∧ w.grownBy wr none
theorem spz_start (sx sy sz : Value) (w : World) : SpZ sx sy sz w (.int .i64 0) (((((w.alloc (.cells #[sx] 25)).alloc (.cells #[sy] 25)).alloc (.cells #[sz] 25)).alloc (.cells #[.slice none 0 0] 25)).alloc (.cells #[.slice none 0 0] 25)) := by
  obtain ⟨t1, t2, t3, t4, g⟩ := put_new w sx sy sz (.slice none 0 0)
  generalize hw : (((w.alloc (.cells #[sx] 25)).alloc (.cells #[sy] 25)).alloc (.cells #[sz] 25)).alloc (.cells #[.slice none 0 0] 25) = wb at *
  have hs : wb.heap.size = w.heap.size + 4 := by rw [← hw]; simp
  have g2 : wb.grownBy (wb.alloc (.cells #[.slice none 0 0] 25)) none := World.grownBy_alloc _ _ none
  have t5 := T1.new wb (.slice none 0 0)
  rw [hs] at t5
  exact ⟨rfl, t5, t4.grown g2, t1.grown g2, t2.grown g2, t3.grown g2, grownBy_trans g g2⟩

set_option maxHeartbeats 4000000 in
theorem sput_no (a b c : Option Addr) (ca cb cc : Nat) (x y z : List Int) (w : World) (hx : IntsAt w a x) (hy : IntsAt w b y) (hz : IntsAt w c z) (h : triB x = false ∨ triB y = false ∨ triB z = false) :
    Calls Try.prog 32 #[.agg #[.slice a x.length ca], .agg #[.slice b y.length cb], .agg #[.slice c z.length cc]] w (TabPost [] w) := by
  have hst := Lib.hid (spz_start (.slice a x.length ca) (.slice b y.length cb) (.slice c z.length cc) w)
  have HX := Lib.hid hx
  have HY := Lib.hid hy
  have HZ := Lib.hid hz
  have HH := Lib.hid h
  clear hx hy hz h
  go_enter Try.func32, Try.ntmps32
  go_wp2_with fail
  go_loopw [8] (fun i wr => SpZ (.slice a x.length ca) (.slice b y.length cb) (.slice c z.length cc) w i wr) (fun i _ => 9 - (intOf i).toNat)
  case atStart => exact hst.out
  case round =>
    obtain ⟨rfl, hT, hR, h1, h2, h3, hgr⟩ := hrel
    have m1 := h1.cell
    have c1 := stok_any a ca x wr (HX.out.grown hgr)
    have H2 := Lib.hid h2
    have H3 := Lib.hid h3
    have HR := Lib.hid hR
    have HT := Lib.hid hT
    have HG := Lib.hid hgr
    clear h1 h2 h3 hR hT hgr
    go_wp2_with fail
    refine c1.mono ?_
    rintro e w1 ⟨rfl, g1⟩
    have m2 := (H2.out.grown g1).cell
    have c2 := stok_any b cb y w1 (HY.out.grown (grownBy_trans HG.out g1))
    clear c1 m1
    have fin : ∀ w4, wr.grownBy w4 none → w4.cell? ⟨w.heap.size + 4, 0, none⟩ = some (.slice none 0 0) ∧ w4.cell? ⟨w.heap.size + 3, 0, none⟩ = some (.slice none 0 0) ∧ w4.frozen? ⟨w.heap.size + 3, 0, none⟩ = false ∧ T1 (w4.setCell ⟨w.heap.size + 3, 0, none⟩ (.slice none 0 0)) (w.heap.size + 3) (.slice none 0 0) ∧ w.grownBy (w4.setCell ⟨w.heap.size + 3, 0, none⟩ (.slice none 0 0)) none := fun w4 g4 =>
      ⟨(HT.out.grown g4).cell, (HR.out.grown g4).cell, (HR.out.grown g4).free, T1.set (HR.out.grown g4), grow_at (grownBy_trans HG.out g4) (grownBy_set w4 (w.heap.size + 3) 0 _) (by omega)⟩
    have FIN := Lib.hid fin
    clear fin
    cases hbx : triB x
    · obtain ⟨p1, p2, p3, p4, p5⟩ := FIN.out w1 g1
      have Q4 := Lib.hid p4
      have Q5 := Lib.hid p5
      clear p4 p5
      go_wp2_with fail
      exact bodyPost_ret (resT1 rfl _ rfl Q4.out) rfl ⟨none, 0, rfl, OwnI.nil _ _, Q5.out⟩
    · go_wp2_with fail
      refine c2.mono ?_
      rintro e w2 ⟨rfl, g2⟩
      have m3 := (H3.out.grown (grownBy_trans g1 g2)).cell
      have c3 := stok_any c cc z w2 (HZ.out.grown (grownBy_trans HG.out (grownBy_trans g1 g2)))
      clear c2 m2
      cases hby : triB y
      · obtain ⟨p1, p2, p3, p4, p5⟩ := FIN.out w2 (grownBy_trans g1 g2)
        have Q4 := Lib.hid p4
        have Q5 := Lib.hid p5
        clear p4 p5
        go_wp2_with fail
        exact bodyPost_ret (resT1 rfl _ rfl Q4.out) rfl ⟨none, 0, rfl, OwnI.nil _ _, Q5.out⟩
      · have hbz : triB z = false := by
          rcases HH.out with e | e | e
          · rw [hbx] at e; cases e
          · rw [hby] at e; cases e
          · exact e
        rw [hbz] at c3
        go_wp2_with fail
        refine c3.mono ?_
        rintro e w3 ⟨rfl, g3⟩
        clear c3 m3
        obtain ⟨p1, p2, p3, p4, p5⟩ := FIN.out w3 (grownBy_trans g1 (grownBy_trans g2 g3))
        have Q4 := Lib.hid p4
        have Q5 := Lib.hid p5
        clear p4 p5
        go_wp2_with fail
        exact bodyPost_ret (resT1 rfl _ rfl Q4.out) rfl ⟨none, 0, rfl, OwnI.nil _ _, Q5.out⟩

theorem sput_any (a b c : Option Addr) (ca cb cc : Nat) (x y z : List Int) (w : World) (hx : IntsAt w a x) (hy : IntsAt w b y) (hz : IntsAt w c z) :
    Calls Try.prog 32 #[.agg #[.slice a x.length ca], .agg #[.slice b y.length cb], .agg #[.slice c z.length cc]] w (TabPost (putR x y z) w) := by
  cases h1 : triB x
  · rw [putR_f (.inl h1)]; exact sput_no a b c ca cb cc x y z w hx hy hz (.inl h1)
  · cases h2 : triB y
    · rw [putR_f (.inr (.inl h2))]; exact sput_no a b c ca cb cc x y z w hx hy hz (.inr (.inl h2))
    · cases h3 : triB z
      · rw [putR_f (.inr (.inr h3))]; exact sput_no a b c ca cb cc x y z w hx hy hz (.inr (.inr h3))
      · have e : putR x y z = putL x y z := by unfold putR; rw [h1, h2, h3]; rfl
        rw [e]
        exact sput_yes a b c ca cb cc x y z w hx hy hz h1 h2 h3

end Go.Proofs.Ytbhfbpmfbknalaa
