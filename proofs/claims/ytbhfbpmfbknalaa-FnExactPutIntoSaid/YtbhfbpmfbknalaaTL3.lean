/-
  The law of PutInto.
-/
import Derived.Test.YtbhfbpmfbknalaaTDp
import Derived.Test.YtbhfbpmfbknalaaTL2
import Derived.Test.YtbhfbpmfbknalaaTSp
import Derived.Outline
namespace Go.Proofs.Ytbhfbpmfbknalaa
open Go.RowKit

theorem put_3 (w : World) (x y z : Value) :
    let wb := ((w.alloc (.cells #[x] 25)).alloc (.cells #[y] 25)).alloc (.cells #[z] 25)
    T1 wb w.heap.size x ∧ T1 wb (w.heap.size + 1) y ∧ T1 wb (w.heap.size + 1 + 1) z ∧ w.grownBy wb none := by
  intro wb
  have g1 : w.grownBy (w.alloc (.cells #[x] 25)) none := World.grownBy_alloc _ _ none
  have b1 := T1.new w x
  have s1 : (w.alloc (.cells #[x] 25)).heap.size = w.heap.size + 1 := by simp
  generalize hw1 : w.alloc (.cells #[x] 25) = w1 at *
  have g2 : w1.grownBy (w1.alloc (.cells #[y] 25)) none := World.grownBy_alloc _ _ none
  have b2 := T1.new w1 y
  have s2 : (w1.alloc (.cells #[y] 25)).heap.size = w.heap.size + 1 + 1 := by simp [s1]
  rw [s1] at b2
  generalize hw2 : w1.alloc (.cells #[y] 25) = w2 at *
  have g3 : w2.grownBy (w2.alloc (.cells #[z] 25)) none := World.grownBy_alloc _ _ none
  have b3 := T1.new w2 z
  rw [s2] at b3
  have hwb : wb = w2.alloc (.cells #[z] 25) := by rw [← hw2, ← hw1]
  rw [hwb]
  exact ⟨(b1.grown g2).grown g3, b2.grown g3, b3, grownBy_trans (grownBy_trans g1 g2) g3⟩
theorem held_4 {w0 w1 w2 : World} {a b c d : Addr} {x y z u : Value} (h : w1.cell? a = some x ∧ w1.cell? b = some y ∧ w1.cell? c = some z ∧ w1.cell? d = some u ∧ w0.grownBy w1 none) (g : w1.grownBy w2 none) : w2.cell? a = some x ∧ w2.cell? b = some y ∧ w2.cell? c = some z ∧ w2.cell? d = some u ∧ w0.grownBy w2 none :=
  ⟨g.cell h.1 (by simp), g.cell h.2.1 (by simp), g.cell h.2.2.1 (by simp), g.cell h.2.2.2.1 (by simp), grownBy_trans h.2.2.2.2 g⟩

/-- What is known of PutInto's answer. -/
def PutFacts (x y z rs : List Int) : Prop := rs.length = 0 ∨ (rs.length = 9 ∧ triB rs = true ∧ (∀ k, k < 9 → triAt x (triAt y ((k / 3 : Nat) : Int) ((k % 3 : Nat) : Int)) (triAt z ((k / 3 : Nat) : Int) ((k % 3 : Nat) : Int)) = triAt rs ((k / 3 : Nat) : Int) ((k % 3 : Nat) : Int)) ∧ (regB x = true → regB y = true → regB z = true → regB rs = true))
theorem put_facts (x y z : List Int) : PutFacts x y z (putR x y z) := by
  unfold PutFacts
  by_cases h : triB x = true ∧ triB y = true ∧ triB z = true
  · obtain ⟨tx, ty, tz⟩ := h
    have e : putR x y z = putL x y z := by unfold putR; rw [tx, ty, tz]; rfl
    rw [e]
    have tr := putL_tri tx ty tz
    refine .inr ⟨(triB_of tr).1, tr, fun k hk => ?_, fun h1 h2 h3 => put_reg h1 h2 h3⟩
    have by' := (triB_of ty).2 k hk
    have bz := (triB_of tz).2 k hk
    have iA : inB ((k / 3 : Nat) : Int) 0 2 = true := inB_t (by omega)
    have iB : inB ((k % 3 : Nat) : Int) 0 2 = true := inB_t (by omega)
    have ek : (3 * ((k / 3 : Nat) : Int) + ((k % 3 : Nat) : Int)).toNat = k := by omega
    rw [tAt_yes ty iA iB, tAt_yes tz iA iB, tAt_yes tr iA iB, fT_t ty, fT_t tz, fT_t tr, ek]
    show triAt x (y.getD k 0) (z.getD k 0) = (putL x y z).getD k 0
    rw [tAt_yes tx (inB_t by') (inB_t bz), fT_t tx, putL_at x y z hk]
    rfl
  · left
    have hf : putR x y z = [] := putR_f (by
      cases h1 : triB x <;> cases h2 : triB y <;> cases h3 : triB z <;> simp_all)
    rw [hf]
    rfl

set_option maxHeartbeats 8000000 in
theorem FnPutInto_walk (a0 : Option Addr) (len0 cap0 : Nat) (z0 : List Int) (w : World) (w0 : IsRow .u8 w a0 len0 cap0 z0) :
    Calls Try.prog 7 #[.slice a0 len0 cap0] w fun e w' => e = .returned (.bool true) ∧ Below w.heap.size w w' := by
  by_cases hl : (1048576 : Int) < (len0 : Int)
  · clear w0
    go_enter Try.func7, Try.ntmps7
    go_wp2_with fail
    go_ret
    exact ⟨rfl, Below.refl _ _⟩
  · go_enter Try.func7, Try.ntmps7
    go_wp2_with fail
    refine (DrawPutInto_any _ _ _ _ _ w0).mono ?_
    rintro e w1 ⟨a, ca, x, b, cb, y, c, cc, z, rfl, hX, hY, hZ, hg⟩
    clear w0
    obtain ⟨t3, t4, t5, g0⟩ := put_3 w1 (.slice a x.length ca) (.slice b y.length cb) (.slice c z.length cc)
    generalize hv0 : ((w1.alloc (.cells #[.slice a x.length ca] 25)).alloc (.cells #[.slice b y.length cb] 25)).alloc (.cells #[.slice c z.length cc] 25) = v0 at *
    have T3 := Lib.hid t3
    have T4 := Lib.hid t4
    have T5 := Lib.hid t5
    have X0 := Lib.hid (hX.grown g0)
    have Y0 := Lib.hid (hY.grown g0)
    have Z0 := Lib.hid (hZ.grown g0)
    have G0 := Lib.hid (grownBy_trans hg g0)
    have n3 := t3.cell
    have n4 := t4.cell
    have n5 := t5.cell
    clear hX hY hZ hg g0 t3 t4 t5
    have c1 := iput_any a b c ca cb cc x y z v0 X0.out Y0.out Z0.out
    have c2 := fun w2 (g : v0.grownBy w2 none) => sput_any a b c ca cb cc x y z w2 (X0.out.grown g) (Y0.out.grown g) (Z0.out.grown g)
    have hF := Lib.hid (put_facts x y z)
    generalize putR x y z = rs at *
    have hm : Hid (rs.length ≤ maxLen) := Lib.hid (by
      unfold maxLen
      rcases hF.out with h | ⟨h, _⟩ <;> omega)
    go_wp2_with fail
    clear hv0
    refine c1.mono ?_
    rintro e w2 ⟨d, cd, rfl, hO, g2⟩
    clear c1 n3 n4 n5
    have ga := World.grownBy_alloc w2 (.cells #[.slice d rs.length cd] 25) none
    have T6 := Lib.hid (T1.new w2 (.slice d rs.length cd))
    have I6 := Lib.hid ((hO.kept ga).at hm.out)
    have GA := Lib.hid (grownBy_trans g2 ga)
    generalize hv1 : w2.alloc (.cells #[.slice d rs.length cd] 25) = v1 at *
    have X1 := Lib.hid (X0.out.grown GA.out)
    have Y1 := Lib.hid (Y0.out.grown GA.out)
    have Z1 := Lib.hid (Z0.out.grown GA.out)
    have G1 := Lib.hid (grownBy_trans G0.out GA.out)
    have C3 := Lib.hid (T3.out.grown GA.out).cell
    have C4 := Lib.hid (T4.out.grown GA.out).cell
    have C5 := Lib.hid (T5.out.grown GA.out).cell
    have C6 := Lib.hid T6.out.cell
    have c2 := fun w2 (g : v1.grownBy w2 none) => c2 w2 (grownBy_trans GA.out g)
    clear hO g2 ga
    have gd : v1.grownBy v1.drew none := grownBy_drew (grownBy_refl _ _)
    have hb : v1.drew.cell? ⟨w1.heap.size, 0, none⟩ = some (.slice a x.length ca) ∧ v1.drew.cell? ⟨w1.heap.size + 1, 0, none⟩ = some (.slice b y.length cb) ∧ v1.drew.cell? ⟨w1.heap.size + 1 + 1, 0, none⟩ = some (.slice c z.length cc) ∧ v1.drew.cell? ⟨w2.heap.size, 0, none⟩ = some (.slice d rs.length cd) ∧ v1.grownBy v1.drew none := ⟨gd.cell C3.out (by simp), gd.cell C4.out (by simp), gd.cell C5.out (by simp), gd.cell C6.out (by simp), gd⟩
    clear gd
    go_wp2_with fail
    clear hv1
    refine wp_region_noPanic ?_
    refine wp_region_held_drew (S := fun w' => w'.cell? ⟨w1.heap.size, 0, none⟩ = some (.slice a x.length ca) ∧ w'.cell? ⟨w1.heap.size + 1, 0, none⟩ = some (.slice b y.length cb) ∧ w'.cell? ⟨w1.heap.size + 1 + 1, 0, none⟩ = some (.slice c z.length cc) ∧ w'.cell? ⟨w2.heap.size, 0, none⟩ = some (.slice d rs.length cd) ∧ v1.grownBy w' none) (by kernel_rfl) hb (fun hH => ?_)
    refine take_an 0 21 (v := ?v1) rfl rfl (by kernel_rfl) (by kernel_rfl) (by kernel_rfl) (fun _ _ _ h => h) (by rfl) ?y1 hH ?r1
    case y1 => (rintro w ⟨p0, p1, p2, p3, p4⟩; go_simp; try with_reducible rfl)
    simp only [Act.put, List.setIfInBounds_toArray, List.set_cons_zero, List.set_cons_succ]
    refine take_an 1 22 (v := ?v2) rfl rfl (by kernel_rfl) (by kernel_rfl) (by kernel_rfl) (fun _ _ _ h => h) (by rfl) ?y2 hH ?r2
    case y2 => (rintro w ⟨p0, p1, p2, p3, p4⟩; go_simp; try with_reducible rfl)
    simp only [Act.put, List.setIfInBounds_toArray, List.set_cons_zero, List.set_cons_succ]
    refine take_an 2 23 (v := ?v3) rfl rfl (by kernel_rfl) (by kernel_rfl) (by kernel_rfl) (fun _ _ _ h => h) (by rfl) ?y3 hH ?r3
    case y3 => (rintro w ⟨p0, p1, p2, p3, p4⟩; go_simp; try with_reducible rfl)
    simp only [Act.put, List.setIfInBounds_toArray, List.set_cons_zero, List.set_cons_succ]
    refine take_an 3 24 (v := ?v4) rfl rfl (by kernel_rfl) (by kernel_rfl) (by kernel_rfl) (fun _ _ _ h => h) (by rfl) ?y4 hH ?r4
    case y4 => (rintro w ⟨p0, p1, p2, p3, p4⟩; go_simp; try with_reducible rfl)
    simp only [Act.put, List.setIfInBounds_toArray, List.set_cons_zero, List.set_cons_succ]
    refine wpAnyH_ready (rs := [4]) (by kernel_rfl) (by simp) ?_
    refine AllReadyH.cons rfl (fun K hK => ?_) AllReadyH.nil
    go_simp
    refine (c2 _ hH.2.2.2.2).mono ?_
    rintro e w4 ⟨d4, cd4, rfl, hO4, g4⟩
    have I4 := Lib.hid (hO4.at hm.out)
    clear hO4 c2
    go_wp2_with fail
    refine hK.out _ _ (held_4 hH g4) (fun h4 => ?_)
    clear hK K
    try simp only [Act.put, List.setIfInBounds_toArray, List.set_cons_zero, List.set_cons_succ]
    refine wpAnyH_ready (rs := [5]) (by kernel_rfl) (by simp) ?_
    refine AllReadyH.cons rfl (fun K hK => ?_) AllReadyH.nil
    go_simp
    have ce := sameT_any d d4 cd cd4 rs rs w4 (I6.out.grown h4.2.2.2.2) I4.out
    rw [sameL_self] at ce
    refine ce.mono ?_
    rintro e w5 ⟨rfl, g5⟩
    clear ce
    go_wp2_with fail
    refine hK.out _ _ (held_4 h4 g5) (fun h5 => ?_)
    clear hK K
    try simp only [Act.put, List.setIfInBounds_toArray, List.set_cons_zero, List.set_cons_succ]
    refine take_an 6 27 (v := ?v5) rfl rfl (by kernel_rfl) (by kernel_rfl) (by kernel_rfl) (fun _ _ _ h => h) (by rfl) ?y5 h5 ?r5
    case y5 => (rintro w ⟨p0, p1, p2, p3, p4⟩; go_simp; try with_reducible rfl)
    simp only [Act.put, List.setIfInBounds_toArray, List.set_cons_zero, List.set_cons_succ]
    refine wpAnyH_done (by kernel_rfl) ?_ _
    refine NoPanic.normal ?_
    have n6 := h5.2.2.2.1
    have H5 := Lib.hid h5
    clear h5 hH hb h4 g4 g5
    rcases hF.out with hlen | ⟨hlen, htri, hval, hreg⟩
    · have hlen1 : ((rs.length : Int) == 0) = true := by rw [hlen]; rfl
      go_wp2_with (go_at_call 18; refine (alive_any _).mono ?_; rintro e w' ⟨rfl, rfl⟩)
      go_ret
      exact ⟨rfl, below_of (grownBy_trans G1.out H5.out.2.2.2.2)⟩
    · have hlen1 : ((rs.length : Int) == 0) = false := by rw [hlen]; rfl
      have HV := Lib.hid hval
      have HRG := Lib.hid hreg
      have HT := Lib.hid htri
      clear hval hreg htri hF hlen
      go_wp2_with fail
      go_loopw [7] (fun i wr => ∃ k : Nat, k ≤ 9 ∧ i = .int .i64 k ∧ v1.grownBy wr none) (fun i _ => 9 - (intOf i).toNat)
      case atStart => exact ⟨0, by omega, rfl, H5.out.2.2.2.2⟩
      case round =>
        obtain ⟨k, hk, rfl, hgr⟩ := hrel
        clear n6
        by_cases hlt : k < 9
        · have hv := HV.out k hlt
          have HLT := Lib.hid hlt
          have i9 : (k : Int) < 9 := by omega
          obtain ⟨A, hA⟩ : ∃ A, A = k / 3 := ⟨_, rfl⟩
          obtain ⟨B, hB⟩ : ∃ B, B = k % 3 := ⟨_, rfl⟩
          have tA : (k : Int).tdiv 3 = (A : Int) := by rw [Int.tdiv_eq_ediv_of_nonneg (by omega)]; omega
          have tB : (k : Int).tmod 3 = (B : Int) := by rw [Int.tmod_eq_emod_of_nonneg (by omega)]; omega
          have eA : (k : Int) / 3 = (A : Int) := by omega
          have eB : (k : Int) % 3 = (B : Int) := by omega
          have wA : IntKind.i64.wrap (A : Int) = (A : Int) := IntWalk.i64_in _ (by omega)
          have wB : IntKind.i64.wrap (B : Int) = (B : Int) := IntWalk.i64_in _ (by omega)
          rw [← hA, ← hB] at hv
          have HG := Lib.hid hgr
          have cr := fun w2 (g : v1.grownBy w2 none) => itat_any d cd rs (A : Int) (B : Int) w2 (I6.out.grown g)
          have cy := fun w2 (g : v1.grownBy w2 none) => itat_any b cb y (A : Int) (B : Int) w2 (Y1.out.grown g)
          have cz := fun w2 (g : v1.grownBy w2 none) => itat_any c cc z (A : Int) (B : Int) w2 (Z1.out.grown g)
          have cx := fun w2 (g : v1.grownBy w2 none) => itat_any a ca x (triAt y (A : Int) (B : Int)) (triAt z (A : Int) (B : Int)) w2 (X1.out.grown g)
          rw [hv] at cx
          clear hv
          generalize triAt y (A : Int) (B : Int) = U at *
          generalize triAt z (A : Int) (B : Int) = V at *
          generalize triAt rs (A : Int) (B : Int) = R at *
          have hRR : (R != R) = false := by simp
          have hgd := grownBy_drew hgr
          have hb : wr.drew.cell? ⟨w1.heap.size, 0, none⟩ = some (.slice a x.length ca) ∧ wr.drew.cell? ⟨w1.heap.size + 1, 0, none⟩ = some (.slice b y.length cb) ∧ wr.drew.cell? ⟨w1.heap.size + 1 + 1, 0, none⟩ = some (.slice c z.length cc) ∧ wr.drew.cell? ⟨w2.heap.size, 0, none⟩ = some (.slice d rs.length cd) ∧ v1.grownBy wr.drew none := ⟨hgd.cell C3.out (by simp), hgd.cell C4.out (by simp), hgd.cell C5.out (by simp), hgd.cell C6.out (by simp), hgd⟩
          clear hlt hk hgr hA hB hgd hm hlen1
          go_wp2_with fail
          refine wp_region_noPanic ?_
          refine wp_region_held_drew (S := fun w' => w'.cell? ⟨w1.heap.size, 0, none⟩ = some (.slice a x.length ca) ∧ w'.cell? ⟨w1.heap.size + 1, 0, none⟩ = some (.slice b y.length cb) ∧ w'.cell? ⟨w1.heap.size + 1 + 1, 0, none⟩ = some (.slice c z.length cc) ∧ w'.cell? ⟨w2.heap.size, 0, none⟩ = some (.slice d rs.length cd) ∧ v1.grownBy w' none) (by kernel_rfl) hb (fun hH => ?_)
          refine take_an 0 37 (v := ?v6) rfl rfl (by kernel_rfl) (by kernel_rfl) (by kernel_rfl) (fun _ _ _ h => h) (by rfl) ?y6 hH ?r6
          case y6 => (rintro w ⟨p0, p1, p2, p3, p4⟩; go_simp; try with_reducible rfl)
          simp only [Act.put, List.setIfInBounds_toArray, List.set_cons_zero, List.set_cons_succ]
          refine take_an 1 38 (v := ?v7) rfl rfl (by kernel_rfl) (by kernel_rfl) (by kernel_rfl) (fun _ _ _ h => h) (by rfl) ?y7 hH ?r7
          case y7 => (rintro w ⟨p0, p1, p2, p3, p4⟩; go_simp; try with_reducible rfl)
          simp only [Act.put, List.setIfInBounds_toArray, List.set_cons_zero, List.set_cons_succ]
          refine take_an 2 39 (v := ?v8) rfl rfl (by kernel_rfl) (by kernel_rfl) (by kernel_rfl) (fun _ _ _ h => h) (by rfl) ?y8 hH ?r8
          case y8 => (rintro w ⟨p0, p1, p2, p3, p4⟩; go_simp; try with_reducible rfl)
          simp only [Act.put, List.setIfInBounds_toArray, List.set_cons_zero, List.set_cons_succ]
          refine take_an 3 40 (v := ?v9) rfl rfl (by kernel_rfl) (by kernel_rfl) (by kernel_rfl) (fun _ _ _ h => h) (by rfl) ?y9 hH ?r9
          case y9 => (rintro w ⟨p0, p1, p2, p3, p4⟩; go_simp; try with_reducible rfl)
          simp only [Act.put, List.setIfInBounds_toArray, List.set_cons_zero, List.set_cons_succ]
          refine take_an 4 41 (v := ?v10) rfl rfl (by kernel_rfl) (by kernel_rfl) (by kernel_rfl) (fun _ _ _ h => h) (by rfl) ?y10 hH ?r10
          case y10 => (rintro w ⟨p0, p1, p2, p3, p4⟩; go_simp; try with_reducible rfl)
          simp only [Act.put, List.setIfInBounds_toArray, List.set_cons_zero, List.set_cons_succ]
          refine take_an 6 43 (v := ?v11) rfl rfl (by kernel_rfl) (by kernel_rfl) (by kernel_rfl) (fun _ _ _ h => h) (by rfl) ?y11 hH ?r11
          case y11 => (rintro w ⟨p0, p1, p2, p3, p4⟩; go_simp; try with_reducible rfl)
          simp only [Act.put, List.setIfInBounds_toArray, List.set_cons_zero, List.set_cons_succ]
          refine take_an 7 44 (v := ?v12) rfl rfl (by kernel_rfl) (by kernel_rfl) (by kernel_rfl) (fun _ _ _ h => h) (by rfl) ?y12 hH ?r12
          case y12 => (rintro w ⟨p0, p1, p2, p3, p4⟩; go_simp; try with_reducible rfl)
          simp only [Act.put, List.setIfInBounds_toArray, List.set_cons_zero, List.set_cons_succ]
          refine take_an 8 45 (v := ?v13) rfl rfl (by kernel_rfl) (by kernel_rfl) (by kernel_rfl) (fun _ _ _ h => h) (by rfl) ?y13 hH ?r13
          case y13 => (rintro w ⟨p0, p1, p2, p3, p4⟩; go_simp; try with_reducible rfl)
          simp only [Act.put, List.setIfInBounds_toArray, List.set_cons_zero, List.set_cons_succ]
          refine take_an 9 46 (v := ?v14) rfl rfl (by kernel_rfl) (by kernel_rfl) (by kernel_rfl) (fun _ _ _ h => h) (by rfl) ?y14 hH ?r14
          case y14 => (rintro w ⟨p0, p1, p2, p3, p4⟩; go_simp; try with_reducible rfl)
          simp only [Act.put, List.setIfInBounds_toArray, List.set_cons_zero, List.set_cons_succ]
          refine take_an 10 47 (v := ?v15) rfl rfl (by kernel_rfl) (by kernel_rfl) (by kernel_rfl) (fun _ _ _ h => h) (by rfl) ?y15 hH ?r15
          case y15 => (rintro w ⟨p0, p1, p2, p3, p4⟩; go_simp; try with_reducible rfl)
          simp only [Act.put, List.setIfInBounds_toArray, List.set_cons_zero, List.set_cons_succ]
          refine take_an 11 48 (v := ?v16) rfl rfl (by kernel_rfl) (by kernel_rfl) (by kernel_rfl) (fun _ _ _ h => h) (by rfl) ?y16 hH ?r16
          case y16 => (rintro w ⟨p0, p1, p2, p3, p4⟩; go_simp; try with_reducible rfl)
          simp only [Act.put, List.setIfInBounds_toArray, List.set_cons_zero, List.set_cons_succ]
          refine take_an 13 50 (v := ?v17) rfl rfl (by kernel_rfl) (by kernel_rfl) (by kernel_rfl) (fun _ _ _ h => h) (by rfl) ?y17 hH ?r17
          case y17 => (rintro w ⟨p0, p1, p2, p3, p4⟩; go_simp; try with_reducible rfl)
          simp only [Act.put, List.setIfInBounds_toArray, List.set_cons_zero, List.set_cons_succ]
          refine take_an 14 51 (v := ?v18) rfl rfl (by kernel_rfl) (by kernel_rfl) (by kernel_rfl) (fun _ _ _ h => h) (by rfl) ?y18 hH ?r18
          case y18 => (rintro w ⟨p0, p1, p2, p3, p4⟩; go_simp; try with_reducible rfl)
          simp only [Act.put, List.setIfInBounds_toArray, List.set_cons_zero, List.set_cons_succ]
          refine take_an 15 52 (v := ?v19) rfl rfl (by kernel_rfl) (by kernel_rfl) (by kernel_rfl) (fun _ _ _ h => h) (by rfl) ?y19 hH ?r19
          case y19 => (rintro w ⟨p0, p1, p2, p3, p4⟩; go_simp; try with_reducible rfl)
          simp only [Act.put, List.setIfInBounds_toArray, List.set_cons_zero, List.set_cons_succ]
          refine take_an 16 53 (v := ?v20) rfl rfl (by kernel_rfl) (by kernel_rfl) (by kernel_rfl) (fun _ _ _ h => h) (by rfl) ?y20 hH ?r20
          case y20 => (rintro w ⟨p0, p1, p2, p3, p4⟩; go_simp; try with_reducible rfl)
          simp only [Act.put, List.setIfInBounds_toArray, List.set_cons_zero, List.set_cons_succ]
          refine take_an 17 54 (v := ?v21) rfl rfl (by kernel_rfl) (by kernel_rfl) (by kernel_rfl) (fun _ _ _ h => h) (by rfl) ?y21 hH ?r21
          case y21 => (rintro w ⟨p0, p1, p2, p3, p4⟩; go_simp; try with_reducible rfl)
          simp only [Act.put, List.setIfInBounds_toArray, List.set_cons_zero, List.set_cons_succ]
          refine wpAnyH_ready (rs := [5]) (by kernel_rfl) (by simp) ?_
          refine AllReadyH.cons rfl (fun K hK => ?_) AllReadyH.nil
          go_simp
          refine (cr _ hH.2.2.2.2).mono ?_
          rintro e w6 ⟨rfl, g6⟩
          clear cr
          go_wp2_with fail
          refine hK.out _ _ (held_4 hH g6) (fun h6 => ?_)
          clear hK K
          try simp only [Act.put, List.setIfInBounds_toArray, List.set_cons_zero, List.set_cons_succ]
          refine wpAnyH_ready (rs := [12]) (by kernel_rfl) (by simp) ?_
          refine AllReadyH.cons rfl (fun K hK => ?_) AllReadyH.nil
          go_simp
          refine (cy _ h6.2.2.2.2).mono ?_
          rintro e w7 ⟨rfl, g7⟩
          clear cy
          go_wp2_with fail
          refine hK.out _ _ (held_4 h6 g7) (fun h7 => ?_)
          clear hK K
          try simp only [Act.put, List.setIfInBounds_toArray, List.set_cons_zero, List.set_cons_succ]
          refine wpAnyH_ready (rs := [18]) (by kernel_rfl) (by simp) ?_
          refine AllReadyH.cons rfl (fun K hK => ?_) AllReadyH.nil
          go_simp
          refine (cz _ h7.2.2.2.2).mono ?_
          rintro e w8 ⟨rfl, g8⟩
          clear cz
          go_wp2_with fail
          refine hK.out _ _ (held_4 h7 g8) (fun h8 => ?_)
          clear hK K
          try simp only [Act.put, List.setIfInBounds_toArray, List.set_cons_zero, List.set_cons_succ]
          refine wpAnyH_ready (rs := [19]) (by kernel_rfl) (by simp) ?_
          refine AllReadyH.cons rfl (fun K hK => ?_) AllReadyH.nil
          go_simp
          refine (cx _ h8.2.2.2.2).mono ?_
          rintro e w9 ⟨rfl, g9⟩
          clear cx
          go_wp2_with fail
          refine hK.out _ _ (held_4 h8 g9) (fun h9 => ?_)
          clear hK K
          try simp only [Act.put, List.setIfInBounds_toArray, List.set_cons_zero, List.set_cons_succ]
          refine take_an 20 57 (v := ?v22) rfl rfl (by kernel_rfl) (by kernel_rfl) (by kernel_rfl) (fun _ _ _ h => h) (by rfl) ?y22 h9 ?r22
          case y22 => (rintro w ⟨p0, p1, p2, p3, p4⟩; go_simp; try with_reducible rfl)
          simp only [Act.put, List.setIfInBounds_toArray, List.set_cons_zero, List.set_cons_succ]
          refine wpAnyH_done (by kernel_rfl) ?_ _
          refine NoPanic.normal ?_
          have HE := Lib.hid h9.2.2.2.2
          clear hH h6 h7 h8 h9 g6 g7 g8 g9 hb
          go_wp2_with fail
          go_roundw
          case rel => exact ⟨k + 1, HLT.out, by go_num, HE.out⟩
          case measure => have := HLT.out; simp [intOf]; omega
        · obtain rfl : k = 9 := by omega
          have HG := Lib.hid hgr
          have n6 := hgr.cell C6.out (by simp)
          clear hlt hk hgr
          have ck := tok_any d cd rs wr (I6.out.grown HG.out)
          rw [HT.out] at ck
          go_wp2_with fail
          refine ck.mono ?_
          rintro e w6 ⟨rfl, g6⟩
          clear ck
          have G6 := Lib.hid (grownBy_trans HG.out g6)
          have n3 := G6.out.cell C3.out (by simp)
          have cx := ireg_any a ca x w6 (X1.out.grown G6.out)
          clear g6 n6
          go_wp2_with fail
          refine cx.mono ?_
          rintro e w7 ⟨rfl, g7⟩
          clear cx n3
          have G7 := Lib.hid (grownBy_trans G6.out g7)
          have n4 := G7.out.cell C4.out (by simp)
          have cy := ireg_any b cb y w7 (Y1.out.grown G7.out)
          clear g7
          cases hrx : regB x
          · clear n4 cy
            go_wp2_with fail
            go_ret
            exact ⟨rfl, below_of (grownBy_trans G1.out G7.out)⟩
          · go_wp2_with fail
            refine cy.mono ?_
            rintro e w8 ⟨rfl, g8⟩
            clear cy n4
            have G8 := Lib.hid (grownBy_trans G7.out g8)
            have n5 := G8.out.cell C5.out (by simp)
            have cz := ireg_any c cc z w8 (Z1.out.grown G8.out)
            clear g8
            cases hry : regB y
            · clear n5 cz
              go_wp2_with fail
              go_ret
              exact ⟨rfl, below_of (grownBy_trans G1.out G8.out)⟩
            · go_wp2_with fail
              refine cz.mono ?_
              rintro e w9 ⟨rfl, g9⟩
              clear cz n5
              have G9 := Lib.hid (grownBy_trans G8.out g9)
              have n6 := G9.out.cell C6.out (by simp)
              have cr := ireg_any d cd rs w9 (I6.out.grown G9.out)
              clear g9
              cases hrz : regB z
              · clear n6 cr
                go_wp2_with fail
                go_ret
                exact ⟨rfl, below_of (grownBy_trans G1.out G9.out)⟩
              · rw [HRG.out hrx hry hrz] at cr
                go_wp2_with fail
                refine cr.mono ?_
                rintro e w10 ⟨rfl, g10⟩
                clear cr n6
                go_wp2_with fail
                go_ret
                exact ⟨rfl, below_of (grownBy_trans G1.out (grownBy_trans G9.out g10))⟩

end Go.Proofs.Ytbhfbpmfbknalaa
