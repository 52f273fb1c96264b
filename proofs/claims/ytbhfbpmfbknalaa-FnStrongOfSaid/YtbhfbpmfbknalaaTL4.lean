/-
  The law of StrongOf.
-/
import Derived.Test.YtbhfbpmfbknalaaTL3
import Derived.Test.YtbhfbpmfbknalaaTSs
namespace Go.Proofs.Ytbhfbpmfbknalaa
open Go.RowKit

theorem nam8 : strR 8 = namR 0 ∧ strR 14 = namR 1 := by decide +kernel
theorem len8 : (strR 8).length = 9 ∧ (strR 14).length = 9 := by decide +kernel
theorem str_regm {m : Nat} (hm : m < 16) : regB (strL m) = true := by
  have h := str_reg
  rw [List.all_eq_true] at h
  exact h m (List.mem_range.2 hm)
theorem at_w {ys : List Int} (h : triB ys = true) {j : Nat} (hj : j < 4) : triAt ys ((j / 2 * 2 : Nat) : Int) ((j % 2 * 2 : Nat) : Int) = ys.getD (3 * (j / 2 * 2) + j % 2 * 2) 0 := by
  rw [tAt_yes h (inB_t (by omega)) (inB_t (by omega)), fT_t h]
  show ys.getD (3 * ((j / 2 * 2 : Nat) : Int) + ((j % 2 * 2 : Nat) : Int)).toNat 0 = _
  rw [show (3 * ((j / 2 * 2 : Nat) : Int) + ((j % 2 * 2 : Nat) : Int)).toNat = 3 * (j / 2 * 2) + j % 2 * 2 by omega]
theorem at_k {ys : List Int} (h : triB ys = true) {k : Nat} (hk : k < 9) : triAt ys ((k / 3 : Nat) : Int) ((k % 3 : Nat) : Int) = ys.getD k 0 := by
  rw [tAt_yes h (inB_t (by omega)) (inB_t (by omega)), fT_t h]
  show ys.getD (3 * ((k / 3 : Nat) : Int) + ((k % 3 : Nat) : Int)).toNat 0 = _
  rw [show (3 * ((k / 3 : Nat) : Int) + ((k % 3 : Nat) : Int)).toNat = k by omega]
theorem str_val {m : Nat} (hm : m < 16) {j : Nat} (hj : j < 4) : triAt (strL m) ((j / 2 * 2 : Nat) : Int) ((j % 2 * 2 : Nat) : Int) = if corB m j then 2 else 0 := by
  rw [at_w (regB_of (str_regm hm)).1 hj]
  have h := str_cor
  rw [List.all_eq_true] at h
  have h := h m (List.mem_range.2 hm)
  rw [List.all_eq_true] at h
  exact beq_iff_eq.1 (h j (List.mem_range.2 hj))
def agB (ys : List Int) (m j : Nat) : Bool := (List.range j).all fun w => ys.getD (3 * (w / 2 * 2) + w % 2 * 2) 0 == if corB m w then 2 else 0
theorem ag_step (ys : List Int) (m j : Nat) : agB ys m (j + 1) = (agB ys m j && (ys.getD (3 * (j / 2 * 2) + j % 2 * 2) 0 == if corB m j then 2 else 0)) := by
  unfold agB
  rw [List.range_succ, List.all_append]
  simp
theorem str_way {ys : List Int} {m : Nat} (hm : m < 16) (h : regB ys = true) (hc : agB ys m 4 = true) {k : Nat} (hk : k < 9) :
    triAt ys ((k / 3 : Nat) : Int) ((k % 3 : Nat) : Int) = 1 ∨ triAt (strL m) ((k / 3 : Nat) : Int) ((k % 3 : Nat) : Int) = triAt ys ((k / 3 : Nat) : Int) ((k % 3 : Nat) : Int) := by
  rw [at_k (regB_of h).1 hk, at_k (regB_of (str_regm hm)).1 hk, strL_at m hk]
  by_cases h1 : ys.getD k 0 = 1
  · exact .inl h1
  · unfold agB at hc
    rw [List.all_eq_true] at hc
    exact .inr (str_most h (fun w hw => beq_iff_eq.1 (hc w (List.mem_range.2 hw))) hk h1).symm
theorem held_1 {w0 w1 w2 : World} {a : Addr} {x : Value} (h : w1.cell? a = some x ∧ w0.grownBy w1 none) (g : w1.grownBy w2 none) : w2.cell? a = some x ∧ w0.grownBy w2 none :=
  ⟨g.cell h.1 (by simp), grownBy_trans h.2 g⟩
theorem held_3 {w0 w1 w2 : World} {a b c : Addr} {x y z : Value} (h : w1.cell? a = some x ∧ w1.cell? b = some y ∧ w1.cell? c = some z ∧ w0.grownBy w1 none) (g : w1.grownBy w2 none) : w2.cell? a = some x ∧ w2.cell? b = some y ∧ w2.cell? c = some z ∧ w0.grownBy w2 none :=
  ⟨g.cell h.1 (by simp), g.cell h.2.1 (by simp), g.cell h.2.2.1 (by simp), grownBy_trans h.2.2.2 g⟩

set_option maxHeartbeats 16000000 in
theorem FnStrongOf_walk (a0 : Option Addr) (len0 cap0 : Nat) (z0 : List Int) (a1 : Option Addr) (len1 cap1 : Nat) (z1 : List Int) (w : World) (w0 : IsRow .u8 w a0 len0 cap0 z0) (w1 : IsRow .u8 w a1 len1 cap1 z1) :
    Calls Try.prog 8 #[.slice a0 len0 cap0, .slice a1 len1 cap1] w fun e w' => e = .returned (.bool true) ∧ Below w.heap.size w w' := by
  by_cases hl : (1048576 : Int) < (len0 : Int)
  · clear w0 w1
    go_enter Try.func8, Try.ntmps8
    go_wp2_with fail
    go_ret
    exact ⟨rfl, Below.refl _ _⟩
  by_cases hl1 : (1048576 : Int) < (len1 : Int)
  · clear w0 w1
    go_enter Try.func8, Try.ntmps8
    go_wp2_with fail
    go_ret
    exact ⟨rfl, Below.refl _ _⟩
  have W1 := Lib.hid w1
  clear w1
  go_enter Try.func8, Try.ntmps8
  go_wp2_with fail
  refine (DrawStrongOf_any _ _ _ _ _ w0).mono ?_
  rintro e u1 ⟨n, rfl, hn1, hn2, hg⟩
  clear w0 hl hl1
  have c1 := istr_any n u1
  have c2 := fun w => sstr_any n w
  have hR : Hid ((n < 0 ∨ 15 < n) ∧ strR n = [] ∨ ∃ m : Nat, m < 16 ∧ n = (m : Int) ∧ strR n = strL m) := by
    unfold Hid
    by_cases h : 0 ≤ n ∧ n ≤ 15
    · obtain ⟨m, rfl⟩ := Int.eq_ofNat_of_zero_le h.1
      exact .inr ⟨m, by omega, rfl, if_pos h⟩
    · exact .inl ⟨by omega, if_neg h⟩
  generalize strR n = rs at *
  have hm : Hid (rs.length ≤ maxLen) := Lib.hid (by
    unfold maxLen
    rcases hR.out with ⟨_, h⟩ | ⟨m, _, _, h⟩
    · rw [h]; simp
    · rw [h]; simp [strL])
  go_wp2_with fail
  refine c1.mono ?_
  rintro e u2 ⟨d, cd, rfl, hO, g2⟩
  clear c1
  have ga := World.grownBy_alloc u2 (.cells #[.slice d rs.length cd] 25) none
  have T6 := Lib.hid (T1.new u2 (.slice d rs.length cd))
  have I6 := Lib.hid ((hO.kept ga).at hm.out)
  have G1 := Lib.hid (grownBy_trans hg (grownBy_trans g2 ga))
  generalize hv1 : u2.alloc (.cells #[.slice d rs.length cd] 25) = v1 at *
  have C6 := Lib.hid T6.out.cell
  clear hO g2 ga hg
  have hgd : v1.grownBy v1.drew none := grownBy_drew (grownBy_refl _ _)
  have hb : v1.drew.cell? ⟨u2.heap.size, 0, none⟩ = some (.slice d rs.length cd) ∧ v1.grownBy v1.drew none := ⟨hgd.cell C6.out (by simp), hgd⟩
  clear hgd
  go_wp2_with fail
  clear hv1
  refine wp_region_noPanic ?_
  refine wp_region_held_drew (S := fun w' => w'.cell? ⟨u2.heap.size, 0, none⟩ = some (.slice d rs.length cd) ∧ v1.grownBy w' none) (by kernel_rfl) hb (fun hH => ?_)
  refine take_an 0 29 (v := ?v1) rfl rfl (by kernel_rfl) (by kernel_rfl) (by kernel_rfl) (fun _ _ _ h => h) (by rfl) ?y1 hH ?r1
  case y1 => (rintro w ⟨p0, p1⟩; go_simp; try with_reducible rfl)
  simp only [Act.put, List.setIfInBounds_toArray, List.set_cons_zero, List.set_cons_succ]
  refine take_an 1 30 (v := ?v2) rfl rfl (by kernel_rfl) (by kernel_rfl) (by kernel_rfl) (fun _ _ _ h => h) (by rfl) ?y2 hH ?r2
  case y2 => (rintro w ⟨p0, p1⟩; go_simp; try with_reducible rfl)
  simp only [Act.put, List.setIfInBounds_toArray, List.set_cons_zero, List.set_cons_succ]
  refine wpAnyH_ready (rs := [2]) (by kernel_rfl) (by simp) ?_
  refine AllReadyH.cons rfl (fun K hK => ?_) AllReadyH.nil
  go_simp
  refine (c2 _).mono ?_
  rintro e u4 ⟨d4, cd4, rfl, hO4, g4⟩
  have I4 := Lib.hid (hO4.at hm.out)
  clear hO4 c2
  go_wp2_with fail
  refine hK.out _ _ (held_1 hH g4) (fun h4 => ?_)
  clear hK K
  try simp only [Act.put, List.setIfInBounds_toArray, List.set_cons_zero, List.set_cons_succ]
  refine wpAnyH_ready (rs := [3]) (by kernel_rfl) (by simp) ?_
  refine AllReadyH.cons rfl (fun K hK => ?_) AllReadyH.nil
  go_simp
  have ce := sameT_any d d4 cd cd4 rs rs u4 (I6.out.grown h4.2) I4.out
  rw [sameL_self] at ce
  refine ce.mono ?_
  rintro e u5 ⟨rfl, g5⟩
  clear ce
  go_wp2_with fail
  refine hK.out _ _ (held_1 h4 g5) (fun h5 => ?_)
  clear hK K
  try simp only [Act.put, List.setIfInBounds_toArray, List.set_cons_zero, List.set_cons_succ]
  refine take_an 4 33 (v := ?v3) rfl rfl (by kernel_rfl) (by kernel_rfl) (by kernel_rfl) (fun _ _ _ h => h) (by rfl) ?y3 h5 ?r3
  case y3 => (rintro w ⟨p0, p1⟩; go_simp; try with_reducible rfl)
  simp only [Act.put, List.setIfInBounds_toArray, List.set_cons_zero, List.set_cons_succ]
  refine wpAnyH_done (by kernel_rfl) ?_ _
  refine NoPanic.normal ?_
  have n6 := h5.1
  have H5 := Lib.hid h5.2
  clear h5 hH hb h4 g4 g5 I4
  rcases hR.out with ⟨hn, hz⟩ | ⟨m, hm16, rfl, hz⟩
  · have hlen1 : ((rs.length : Int) == 0) = true := by rw [hz]; rfl
    clear hz
    by_cases h0 : n < 0
    · go_wp2_with (go_at_call 18; refine (alive_any _).mono ?_; rintro e w' ⟨rfl, rfl⟩)
      go_ret
      exact ⟨rfl, below_of (grownBy_trans G1.out H5.out)⟩
    · have h15 : 15 < n := by omega
      clear hn
      go_wp2_with (go_at_call 18; refine (alive_any _).mono ?_; rintro e w' ⟨rfl, rfl⟩)
      go_ret
      exact ⟨rfl, below_of (grownBy_trans G1.out H5.out)⟩
  have hlen1 : ((rs.length : Int) == 0) = false := by rw [hz]; simp [strL]
  have HM := Lib.hid hm16
  have HZ := Lib.hid hz
  have hm0 : ¬ ((m : Int) < 0) := by omega
  clear hm16 hz hn1 hn2 hm hR
  go_wp2_with fail
  go_loopw [7] (fun i wr => ∃ j : Nat, j ≤ 4 ∧ i = .int .i64 j ∧ v1.grownBy wr none) (fun i _ => 4 - (intOf i).toNat)
  case atStart => exact ⟨0, by omega, rfl, H5.out⟩
  case round =>
    obtain ⟨j, hj, rfl, hgr⟩ := hrel
    clear n6 hlen1
    by_cases hlt : j < 4
    · have HG := Lib.hid hgr
      have hgd := grownBy_drew hgr
      have hb : wr.drew.cell? ⟨u2.heap.size, 0, none⟩ = some (.slice d rs.length cd) ∧ v1.grownBy wr.drew none := ⟨hgd.cell C6.out (by simp), hgd⟩
      clear hgd hgr
      have hj4 : j = 0 ∨ j = 1 ∨ j = 2 ∨ j = 3 := by omega
      clear hlt hj
      have E := Lib.hid (shr_at HM.out)
      rcases hj4 with rfl | rfl | rfl | rfl
      · have hv : triAt rs 0 0 = if corB m 0 then 2 else 0 := by rw [HZ.out]; exact str_val HM.out (j := 0) (by omega)
        have hcor := Lib.hid (E.out.1)
        have ct := fun w2 (g : v1.grownBy w2 none) => itat_any d cd rs 0 0 w2 (I6.out.grown g)
        rw [hv] at ct
        clear hv E
        cases g3 : corB m 0
        · have q1 : (m : Int) % 2 = 0 := by have := hcor.out; rw [g3] at this; have := beq_eq_false_iff_ne.1 this; omega
          have q2 : (m : Int).tmod 2 = 0 := by rw [Int.tmod_eq_emod_of_nonneg (by omega)]; exact q1
          rw [g3] at ct
          simp only [if_false, Bool.false_eq_true] at ct
          clear hcor g3
          go_wp2_with fail
          refine wp_region_noPanic ?_
          refine wp_region_held_drew (S := fun w' => w'.cell? ⟨u2.heap.size, 0, none⟩ = some (.slice d rs.length cd) ∧ v1.grownBy w' none) (by kernel_rfl) hb (fun hH => ?_)
          refine take_an 0 51 (v := ?v4) rfl rfl (by kernel_rfl) (by kernel_rfl) (by kernel_rfl) (fun _ _ _ h => h) (by rfl) ?y4 hH ?r4
          case y4 => (rintro w ⟨p0, p1⟩; go_simp; try with_reducible rfl)
          simp only [Act.put, List.setIfInBounds_toArray, List.set_cons_zero, List.set_cons_succ]
          refine take_an 1 52 (v := ?v5) rfl rfl (by kernel_rfl) (by kernel_rfl) (by kernel_rfl) (fun _ _ _ h => h) (by rfl) ?y5 hH ?r5
          case y5 => (rintro w ⟨p0, p1⟩; go_simp; try with_reducible rfl)
          simp only [Act.put, List.setIfInBounds_toArray, List.set_cons_zero, List.set_cons_succ]
          refine take_an 2 53 (v := ?v6) rfl rfl (by kernel_rfl) (by kernel_rfl) (by kernel_rfl) (fun _ _ _ h => h) (by rfl) ?y6 hH ?r6
          case y6 => (rintro w ⟨p0, p1⟩; go_simp; try with_reducible rfl)
          simp only [Act.put, List.setIfInBounds_toArray, List.set_cons_zero, List.set_cons_succ]
          refine take_an 3 54 (v := ?v7) rfl rfl (by kernel_rfl) (by kernel_rfl) (by kernel_rfl) (fun _ _ _ h => h) (by rfl) ?y7 hH ?r7
          case y7 => (rintro w ⟨p0, p1⟩; go_simp; try with_reducible rfl)
          simp only [Act.put, List.setIfInBounds_toArray, List.set_cons_zero, List.set_cons_succ]
          refine take_an 4 55 (v := ?v8) rfl rfl (by kernel_rfl) (by kernel_rfl) (by kernel_rfl) (fun _ _ _ h => h) (by rfl) ?y8 hH ?r8
          case y8 => (rintro w ⟨p0, p1⟩; go_simp; try with_reducible rfl)
          simp only [Act.put, List.setIfInBounds_toArray, List.set_cons_zero, List.set_cons_succ]
          refine take_an 5 56 (v := ?v9) rfl rfl (by kernel_rfl) (by kernel_rfl) (by kernel_rfl) (fun _ _ _ h => h) (by rfl) ?y9 hH ?r9
          case y9 => (rintro w ⟨p0, p1⟩; go_simp; try with_reducible rfl)
          simp only [Act.put, List.setIfInBounds_toArray, List.set_cons_zero, List.set_cons_succ]
          refine take_an 6 57 (v := ?v10) rfl rfl (by kernel_rfl) (by kernel_rfl) (by kernel_rfl) (fun _ _ _ h => h) (by rfl) ?y10 hH ?r10
          case y10 => (rintro w ⟨p0, p1⟩; go_simp; try with_reducible rfl)
          simp only [Act.put, List.setIfInBounds_toArray, List.set_cons_zero, List.set_cons_succ]
          refine take_an 8 59 (v := ?v11) rfl rfl (by kernel_rfl) (by kernel_rfl) (by kernel_rfl) (fun _ _ _ h => h) (by rfl) ?y11 hH ?r11
          case y11 => (rintro w ⟨p0, p1⟩; go_simp; try with_reducible rfl)
          simp only [Act.put, List.setIfInBounds_toArray, List.set_cons_zero, List.set_cons_succ]
          refine take_an 9 60 (v := ?v12) rfl rfl (by kernel_rfl) (by kernel_rfl) (by kernel_rfl) (fun _ _ _ h => h) (by rfl) ?y12 hH ?r12
          case y12 => (rintro w ⟨p0, p1⟩; go_simp; try with_reducible rfl)
          simp only [Act.put, List.setIfInBounds_toArray, List.set_cons_zero, List.set_cons_succ]
          refine take_an 10 61 (v := ?v13) rfl rfl (by kernel_rfl) (by kernel_rfl) (by kernel_rfl) (fun _ _ _ h => h) (by rfl) ?y13 hH ?r13
          case y13 => (rintro w ⟨p0, p1⟩; go_simp; try with_reducible rfl)
          simp only [Act.put, List.setIfInBounds_toArray, List.set_cons_zero, List.set_cons_succ]
          refine take_an 11 62 (v := ?v14) rfl rfl (by kernel_rfl) (by kernel_rfl) (by kernel_rfl) (fun _ _ _ h => h) (by rfl) ?y14 hH ?r14
          case y14 => (rintro w ⟨p0, p1⟩; go_simp; try with_reducible rfl)
          simp only [Act.put, List.setIfInBounds_toArray, List.set_cons_zero, List.set_cons_succ]
          refine take_an 12 63 (v := ?v15) rfl rfl (by kernel_rfl) (by kernel_rfl) (by kernel_rfl) (fun _ _ _ h => h) (by rfl) ?y15 hH ?r15
          case y15 => (rintro w ⟨p0, p1⟩; go_simp; try with_reducible rfl)
          simp only [Act.put, List.setIfInBounds_toArray, List.set_cons_zero, List.set_cons_succ]
          refine wpAnyH_ready (rs := [7]) (by kernel_rfl) (by simp) ?_
          refine AllReadyH.cons rfl (fun K hK => ?_) AllReadyH.nil
          go_simp
          refine (ct _ hH.2).mono ?_
          rintro e u6 ⟨rfl, g6⟩
          clear ct
          go_wp2_with fail
          refine hK.out _ _ (held_1 hH g6) (fun h6 => ?_)
          clear hK K
          try simp only [Act.put, List.setIfInBounds_toArray, List.set_cons_zero, List.set_cons_succ]
          refine take_an 13 64 (v := ?v16) rfl rfl (by kernel_rfl) (by kernel_rfl) (by kernel_rfl) (fun _ _ _ h => h) (by rfl) ?y16 h6 ?r16
          case y16 => (rintro w ⟨p0, p1⟩; go_simp; try with_reducible rfl)
          simp only [Act.put, List.setIfInBounds_toArray, List.set_cons_zero, List.set_cons_succ]
          refine wpAnyH_done (by kernel_rfl) ?_ _
          refine NoPanic.normal ?_
          have HE := Lib.hid h6.2
          clear hH h6 g6 hb
          go_wp2_with fail
          go_roundw
          case rel => exact ⟨0 + 1, by omega, rfl, HE.out⟩
          case measure => simp [intOf]
        · have q1 : (m : Int) % 2 = 1 := by have := hcor.out; rw [g3] at this; exact beq_iff_eq.1 this
          have q2 : (m : Int).tmod 2 = 1 := by rw [Int.tmod_eq_emod_of_nonneg (by omega)]; exact q1
          rw [g3] at ct
          simp only [if_true] at ct
          clear hcor g3
          go_wp2_with fail
          refine wp_region_noPanic ?_
          refine wp_region_held_drew (S := fun w' => w'.cell? ⟨u2.heap.size, 0, none⟩ = some (.slice d rs.length cd) ∧ v1.grownBy w' none) (by kernel_rfl) hb (fun hH => ?_)
          refine take_an 0 51 (v := ?v17) rfl rfl (by kernel_rfl) (by kernel_rfl) (by kernel_rfl) (fun _ _ _ h => h) (by rfl) ?y17 hH ?r17
          case y17 => (rintro w ⟨p0, p1⟩; go_simp; try with_reducible rfl)
          simp only [Act.put, List.setIfInBounds_toArray, List.set_cons_zero, List.set_cons_succ]
          refine take_an 1 52 (v := ?v18) rfl rfl (by kernel_rfl) (by kernel_rfl) (by kernel_rfl) (fun _ _ _ h => h) (by rfl) ?y18 hH ?r18
          case y18 => (rintro w ⟨p0, p1⟩; go_simp; try with_reducible rfl)
          simp only [Act.put, List.setIfInBounds_toArray, List.set_cons_zero, List.set_cons_succ]
          refine take_an 2 53 (v := ?v19) rfl rfl (by kernel_rfl) (by kernel_rfl) (by kernel_rfl) (fun _ _ _ h => h) (by rfl) ?y19 hH ?r19
          case y19 => (rintro w ⟨p0, p1⟩; go_simp; try with_reducible rfl)
          simp only [Act.put, List.setIfInBounds_toArray, List.set_cons_zero, List.set_cons_succ]
          refine take_an 3 54 (v := ?v20) rfl rfl (by kernel_rfl) (by kernel_rfl) (by kernel_rfl) (fun _ _ _ h => h) (by rfl) ?y20 hH ?r20
          case y20 => (rintro w ⟨p0, p1⟩; go_simp; try with_reducible rfl)
          simp only [Act.put, List.setIfInBounds_toArray, List.set_cons_zero, List.set_cons_succ]
          refine take_an 4 55 (v := ?v21) rfl rfl (by kernel_rfl) (by kernel_rfl) (by kernel_rfl) (fun _ _ _ h => h) (by rfl) ?y21 hH ?r21
          case y21 => (rintro w ⟨p0, p1⟩; go_simp; try with_reducible rfl)
          simp only [Act.put, List.setIfInBounds_toArray, List.set_cons_zero, List.set_cons_succ]
          refine take_an 5 56 (v := ?v22) rfl rfl (by kernel_rfl) (by kernel_rfl) (by kernel_rfl) (fun _ _ _ h => h) (by rfl) ?y22 hH ?r22
          case y22 => (rintro w ⟨p0, p1⟩; go_simp; try with_reducible rfl)
          simp only [Act.put, List.setIfInBounds_toArray, List.set_cons_zero, List.set_cons_succ]
          refine take_an 6 57 (v := ?v23) rfl rfl (by kernel_rfl) (by kernel_rfl) (by kernel_rfl) (fun _ _ _ h => h) (by rfl) ?y23 hH ?r23
          case y23 => (rintro w ⟨p0, p1⟩; go_simp; try with_reducible rfl)
          simp only [Act.put, List.setIfInBounds_toArray, List.set_cons_zero, List.set_cons_succ]
          refine take_an 8 59 (v := ?v24) rfl rfl (by kernel_rfl) (by kernel_rfl) (by kernel_rfl) (fun _ _ _ h => h) (by rfl) ?y24 hH ?r24
          case y24 => (rintro w ⟨p0, p1⟩; go_simp; try with_reducible rfl)
          simp only [Act.put, List.setIfInBounds_toArray, List.set_cons_zero, List.set_cons_succ]
          refine take_an 9 60 (v := ?v25) rfl rfl (by kernel_rfl) (by kernel_rfl) (by kernel_rfl) (fun _ _ _ h => h) (by rfl) ?y25 hH ?r25
          case y25 => (rintro w ⟨p0, p1⟩; go_simp; try with_reducible rfl)
          simp only [Act.put, List.setIfInBounds_toArray, List.set_cons_zero, List.set_cons_succ]
          refine take_an 10 61 (v := ?v26) rfl rfl (by kernel_rfl) (by kernel_rfl) (by kernel_rfl) (fun _ _ _ h => h) (by rfl) ?y26 hH ?r26
          case y26 => (rintro w ⟨p0, p1⟩; go_simp; try with_reducible rfl)
          simp only [Act.put, List.setIfInBounds_toArray, List.set_cons_zero, List.set_cons_succ]
          refine take_an 11 62 (v := ?v27) rfl rfl (by kernel_rfl) (by kernel_rfl) (by kernel_rfl) (fun _ _ _ h => h) (by rfl) ?y27 hH ?r27
          case y27 => (rintro w ⟨p0, p1⟩; go_simp; try with_reducible rfl)
          simp only [Act.put, List.setIfInBounds_toArray, List.set_cons_zero, List.set_cons_succ]
          refine take_an 12 63 (v := ?v28) rfl rfl (by kernel_rfl) (by kernel_rfl) (by kernel_rfl) (fun _ _ _ h => h) (by rfl) ?y28 hH ?r28
          case y28 => (rintro w ⟨p0, p1⟩; go_simp; try with_reducible rfl)
          simp only [Act.put, List.setIfInBounds_toArray, List.set_cons_zero, List.set_cons_succ]
          refine wpAnyH_ready (rs := [7]) (by kernel_rfl) (by simp) ?_
          refine AllReadyH.cons rfl (fun K hK => ?_) AllReadyH.nil
          go_simp
          refine (ct _ hH.2).mono ?_
          rintro e u6 ⟨rfl, g6⟩
          clear ct
          go_wp2_with fail
          refine hK.out _ _ (held_1 hH g6) (fun h6 => ?_)
          clear hK K
          try simp only [Act.put, List.setIfInBounds_toArray, List.set_cons_zero, List.set_cons_succ]
          refine take_an 13 64 (v := ?v29) rfl rfl (by kernel_rfl) (by kernel_rfl) (by kernel_rfl) (fun _ _ _ h => h) (by rfl) ?y29 h6 ?r29
          case y29 => (rintro w ⟨p0, p1⟩; go_simp; try with_reducible rfl)
          simp only [Act.put, List.setIfInBounds_toArray, List.set_cons_zero, List.set_cons_succ]
          refine wpAnyH_done (by kernel_rfl) ?_ _
          refine NoPanic.normal ?_
          have HE := Lib.hid h6.2
          clear hH h6 g6 hb
          go_wp2_with fail
          go_roundw
          case rel => exact ⟨0 + 1, by omega, rfl, HE.out⟩
          case measure => simp [intOf]
      · have hv : triAt rs 0 2 = if corB m 1 then 2 else 0 := by rw [HZ.out]; exact str_val HM.out (j := 1) (by omega)
        have hcor := Lib.hid (E.out.2.1)
        have ct := fun w2 (g : v1.grownBy w2 none) => itat_any d cd rs 0 2 w2 (I6.out.grown g)
        rw [hv] at ct
        clear hv E
        cases g3 : corB m 1
        · have q1 : ((m : Int) / 2) % 2 = 0 := by have := hcor.out; rw [g3] at this; have := beq_eq_false_iff_ne.1 this; omega
          have q2 : ((m : Int) / 2).tmod 2 = 0 := by rw [Int.tmod_eq_emod_of_nonneg (by omega)]; exact q1
          rw [g3] at ct
          simp only [if_false, Bool.false_eq_true] at ct
          clear hcor g3
          go_wp2_with fail
          refine wp_region_noPanic ?_
          refine wp_region_held_drew (S := fun w' => w'.cell? ⟨u2.heap.size, 0, none⟩ = some (.slice d rs.length cd) ∧ v1.grownBy w' none) (by kernel_rfl) hb (fun hH => ?_)
          refine take_an 0 51 (v := ?v30) rfl rfl (by kernel_rfl) (by kernel_rfl) (by kernel_rfl) (fun _ _ _ h => h) (by rfl) ?y30 hH ?r30
          case y30 => (rintro w ⟨p0, p1⟩; go_simp; try with_reducible rfl)
          simp only [Act.put, List.setIfInBounds_toArray, List.set_cons_zero, List.set_cons_succ]
          refine take_an 1 52 (v := ?v31) rfl rfl (by kernel_rfl) (by kernel_rfl) (by kernel_rfl) (fun _ _ _ h => h) (by rfl) ?y31 hH ?r31
          case y31 => (rintro w ⟨p0, p1⟩; go_simp; try with_reducible rfl)
          simp only [Act.put, List.setIfInBounds_toArray, List.set_cons_zero, List.set_cons_succ]
          refine take_an 2 53 (v := ?v32) rfl rfl (by kernel_rfl) (by kernel_rfl) (by kernel_rfl) (fun _ _ _ h => h) (by rfl) ?y32 hH ?r32
          case y32 => (rintro w ⟨p0, p1⟩; go_simp; try with_reducible rfl)
          simp only [Act.put, List.setIfInBounds_toArray, List.set_cons_zero, List.set_cons_succ]
          refine take_an 3 54 (v := ?v33) rfl rfl (by kernel_rfl) (by kernel_rfl) (by kernel_rfl) (fun _ _ _ h => h) (by rfl) ?y33 hH ?r33
          case y33 => (rintro w ⟨p0, p1⟩; go_simp; try with_reducible rfl)
          simp only [Act.put, List.setIfInBounds_toArray, List.set_cons_zero, List.set_cons_succ]
          refine take_an 4 55 (v := ?v34) rfl rfl (by kernel_rfl) (by kernel_rfl) (by kernel_rfl) (fun _ _ _ h => h) (by rfl) ?y34 hH ?r34
          case y34 => (rintro w ⟨p0, p1⟩; go_simp; try with_reducible rfl)
          simp only [Act.put, List.setIfInBounds_toArray, List.set_cons_zero, List.set_cons_succ]
          refine take_an 5 56 (v := ?v35) rfl rfl (by kernel_rfl) (by kernel_rfl) (by kernel_rfl) (fun _ _ _ h => h) (by rfl) ?y35 hH ?r35
          case y35 => (rintro w ⟨p0, p1⟩; go_simp; try with_reducible rfl)
          simp only [Act.put, List.setIfInBounds_toArray, List.set_cons_zero, List.set_cons_succ]
          refine take_an 6 57 (v := ?v36) rfl rfl (by kernel_rfl) (by kernel_rfl) (by kernel_rfl) (fun _ _ _ h => h) (by rfl) ?y36 hH ?r36
          case y36 => (rintro w ⟨p0, p1⟩; go_simp; try with_reducible rfl)
          simp only [Act.put, List.setIfInBounds_toArray, List.set_cons_zero, List.set_cons_succ]
          refine take_an 8 59 (v := ?v37) rfl rfl (by kernel_rfl) (by kernel_rfl) (by kernel_rfl) (fun _ _ _ h => h) (by rfl) ?y37 hH ?r37
          case y37 => (rintro w ⟨p0, p1⟩; go_simp; try with_reducible rfl)
          simp only [Act.put, List.setIfInBounds_toArray, List.set_cons_zero, List.set_cons_succ]
          refine take_an 9 60 (v := ?v38) rfl rfl (by kernel_rfl) (by kernel_rfl) (by kernel_rfl) (fun _ _ _ h => h) (by rfl) ?y38 hH ?r38
          case y38 => (rintro w ⟨p0, p1⟩; go_simp; try with_reducible rfl)
          simp only [Act.put, List.setIfInBounds_toArray, List.set_cons_zero, List.set_cons_succ]
          refine take_an 10 61 (v := ?v39) rfl rfl (by kernel_rfl) (by kernel_rfl) (by kernel_rfl) (fun _ _ _ h => h) (by rfl) ?y39 hH ?r39
          case y39 => (rintro w ⟨p0, p1⟩; go_simp; try with_reducible rfl)
          simp only [Act.put, List.setIfInBounds_toArray, List.set_cons_zero, List.set_cons_succ]
          refine take_an 11 62 (v := ?v40) rfl rfl (by kernel_rfl) (by kernel_rfl) (by kernel_rfl) (fun _ _ _ h => h) (by rfl) ?y40 hH ?r40
          case y40 => (rintro w ⟨p0, p1⟩; go_simp; try with_reducible rfl)
          simp only [Act.put, List.setIfInBounds_toArray, List.set_cons_zero, List.set_cons_succ]
          refine take_an 12 63 (v := ?v41) rfl rfl (by kernel_rfl) (by kernel_rfl) (by kernel_rfl) (fun _ _ _ h => h) (by rfl) ?y41 hH ?r41
          case y41 => (rintro w ⟨p0, p1⟩; go_simp; try with_reducible rfl)
          simp only [Act.put, List.setIfInBounds_toArray, List.set_cons_zero, List.set_cons_succ]
          refine wpAnyH_ready (rs := [7]) (by kernel_rfl) (by simp) ?_
          refine AllReadyH.cons rfl (fun K hK => ?_) AllReadyH.nil
          go_simp
          refine (ct _ hH.2).mono ?_
          rintro e u6 ⟨rfl, g6⟩
          clear ct
          go_wp2_with fail
          refine hK.out _ _ (held_1 hH g6) (fun h6 => ?_)
          clear hK K
          try simp only [Act.put, List.setIfInBounds_toArray, List.set_cons_zero, List.set_cons_succ]
          refine take_an 13 64 (v := ?v42) rfl rfl (by kernel_rfl) (by kernel_rfl) (by kernel_rfl) (fun _ _ _ h => h) (by rfl) ?y42 h6 ?r42
          case y42 => (rintro w ⟨p0, p1⟩; go_simp; try with_reducible rfl)
          simp only [Act.put, List.setIfInBounds_toArray, List.set_cons_zero, List.set_cons_succ]
          refine wpAnyH_done (by kernel_rfl) ?_ _
          refine NoPanic.normal ?_
          have HE := Lib.hid h6.2
          clear hH h6 g6 hb
          go_wp2_with fail
          go_roundw
          case rel => exact ⟨1 + 1, by omega, rfl, HE.out⟩
          case measure => simp [intOf]
        · have q1 : ((m : Int) / 2) % 2 = 1 := by have := hcor.out; rw [g3] at this; exact beq_iff_eq.1 this
          have q2 : ((m : Int) / 2).tmod 2 = 1 := by rw [Int.tmod_eq_emod_of_nonneg (by omega)]; exact q1
          rw [g3] at ct
          simp only [if_true] at ct
          clear hcor g3
          go_wp2_with fail
          refine wp_region_noPanic ?_
          refine wp_region_held_drew (S := fun w' => w'.cell? ⟨u2.heap.size, 0, none⟩ = some (.slice d rs.length cd) ∧ v1.grownBy w' none) (by kernel_rfl) hb (fun hH => ?_)
          refine take_an 0 51 (v := ?v43) rfl rfl (by kernel_rfl) (by kernel_rfl) (by kernel_rfl) (fun _ _ _ h => h) (by rfl) ?y43 hH ?r43
          case y43 => (rintro w ⟨p0, p1⟩; go_simp; try with_reducible rfl)
          simp only [Act.put, List.setIfInBounds_toArray, List.set_cons_zero, List.set_cons_succ]
          refine take_an 1 52 (v := ?v44) rfl rfl (by kernel_rfl) (by kernel_rfl) (by kernel_rfl) (fun _ _ _ h => h) (by rfl) ?y44 hH ?r44
          case y44 => (rintro w ⟨p0, p1⟩; go_simp; try with_reducible rfl)
          simp only [Act.put, List.setIfInBounds_toArray, List.set_cons_zero, List.set_cons_succ]
          refine take_an 2 53 (v := ?v45) rfl rfl (by kernel_rfl) (by kernel_rfl) (by kernel_rfl) (fun _ _ _ h => h) (by rfl) ?y45 hH ?r45
          case y45 => (rintro w ⟨p0, p1⟩; go_simp; try with_reducible rfl)
          simp only [Act.put, List.setIfInBounds_toArray, List.set_cons_zero, List.set_cons_succ]
          refine take_an 3 54 (v := ?v46) rfl rfl (by kernel_rfl) (by kernel_rfl) (by kernel_rfl) (fun _ _ _ h => h) (by rfl) ?y46 hH ?r46
          case y46 => (rintro w ⟨p0, p1⟩; go_simp; try with_reducible rfl)
          simp only [Act.put, List.setIfInBounds_toArray, List.set_cons_zero, List.set_cons_succ]
          refine take_an 4 55 (v := ?v47) rfl rfl (by kernel_rfl) (by kernel_rfl) (by kernel_rfl) (fun _ _ _ h => h) (by rfl) ?y47 hH ?r47
          case y47 => (rintro w ⟨p0, p1⟩; go_simp; try with_reducible rfl)
          simp only [Act.put, List.setIfInBounds_toArray, List.set_cons_zero, List.set_cons_succ]
          refine take_an 5 56 (v := ?v48) rfl rfl (by kernel_rfl) (by kernel_rfl) (by kernel_rfl) (fun _ _ _ h => h) (by rfl) ?y48 hH ?r48
          case y48 => (rintro w ⟨p0, p1⟩; go_simp; try with_reducible rfl)
          simp only [Act.put, List.setIfInBounds_toArray, List.set_cons_zero, List.set_cons_succ]
          refine take_an 6 57 (v := ?v49) rfl rfl (by kernel_rfl) (by kernel_rfl) (by kernel_rfl) (fun _ _ _ h => h) (by rfl) ?y49 hH ?r49
          case y49 => (rintro w ⟨p0, p1⟩; go_simp; try with_reducible rfl)
          simp only [Act.put, List.setIfInBounds_toArray, List.set_cons_zero, List.set_cons_succ]
          refine take_an 8 59 (v := ?v50) rfl rfl (by kernel_rfl) (by kernel_rfl) (by kernel_rfl) (fun _ _ _ h => h) (by rfl) ?y50 hH ?r50
          case y50 => (rintro w ⟨p0, p1⟩; go_simp; try with_reducible rfl)
          simp only [Act.put, List.setIfInBounds_toArray, List.set_cons_zero, List.set_cons_succ]
          refine take_an 9 60 (v := ?v51) rfl rfl (by kernel_rfl) (by kernel_rfl) (by kernel_rfl) (fun _ _ _ h => h) (by rfl) ?y51 hH ?r51
          case y51 => (rintro w ⟨p0, p1⟩; go_simp; try with_reducible rfl)
          simp only [Act.put, List.setIfInBounds_toArray, List.set_cons_zero, List.set_cons_succ]
          refine take_an 10 61 (v := ?v52) rfl rfl (by kernel_rfl) (by kernel_rfl) (by kernel_rfl) (fun _ _ _ h => h) (by rfl) ?y52 hH ?r52
          case y52 => (rintro w ⟨p0, p1⟩; go_simp; try with_reducible rfl)
          simp only [Act.put, List.setIfInBounds_toArray, List.set_cons_zero, List.set_cons_succ]
          refine take_an 11 62 (v := ?v53) rfl rfl (by kernel_rfl) (by kernel_rfl) (by kernel_rfl) (fun _ _ _ h => h) (by rfl) ?y53 hH ?r53
          case y53 => (rintro w ⟨p0, p1⟩; go_simp; try with_reducible rfl)
          simp only [Act.put, List.setIfInBounds_toArray, List.set_cons_zero, List.set_cons_succ]
          refine take_an 12 63 (v := ?v54) rfl rfl (by kernel_rfl) (by kernel_rfl) (by kernel_rfl) (fun _ _ _ h => h) (by rfl) ?y54 hH ?r54
          case y54 => (rintro w ⟨p0, p1⟩; go_simp; try with_reducible rfl)
          simp only [Act.put, List.setIfInBounds_toArray, List.set_cons_zero, List.set_cons_succ]
          refine wpAnyH_ready (rs := [7]) (by kernel_rfl) (by simp) ?_
          refine AllReadyH.cons rfl (fun K hK => ?_) AllReadyH.nil
          go_simp
          refine (ct _ hH.2).mono ?_
          rintro e u6 ⟨rfl, g6⟩
          clear ct
          go_wp2_with fail
          refine hK.out _ _ (held_1 hH g6) (fun h6 => ?_)
          clear hK K
          try simp only [Act.put, List.setIfInBounds_toArray, List.set_cons_zero, List.set_cons_succ]
          refine take_an 13 64 (v := ?v55) rfl rfl (by kernel_rfl) (by kernel_rfl) (by kernel_rfl) (fun _ _ _ h => h) (by rfl) ?y55 h6 ?r55
          case y55 => (rintro w ⟨p0, p1⟩; go_simp; try with_reducible rfl)
          simp only [Act.put, List.setIfInBounds_toArray, List.set_cons_zero, List.set_cons_succ]
          refine wpAnyH_done (by kernel_rfl) ?_ _
          refine NoPanic.normal ?_
          have HE := Lib.hid h6.2
          clear hH h6 g6 hb
          go_wp2_with fail
          go_roundw
          case rel => exact ⟨1 + 1, by omega, rfl, HE.out⟩
          case measure => simp [intOf]
      · have hv : triAt rs 2 0 = if corB m 2 then 2 else 0 := by rw [HZ.out]; exact str_val HM.out (j := 2) (by omega)
        have hcor := Lib.hid (E.out.2.2.1)
        have ct := fun w2 (g : v1.grownBy w2 none) => itat_any d cd rs 2 0 w2 (I6.out.grown g)
        rw [hv] at ct
        clear hv E
        cases g3 : corB m 2
        · have q1 : ((m : Int) / 4) % 2 = 0 := by have := hcor.out; rw [g3] at this; have := beq_eq_false_iff_ne.1 this; omega
          have q2 : ((m : Int) / 4).tmod 2 = 0 := by rw [Int.tmod_eq_emod_of_nonneg (by omega)]; exact q1
          rw [g3] at ct
          simp only [if_false, Bool.false_eq_true] at ct
          clear hcor g3
          go_wp2_with fail
          refine wp_region_noPanic ?_
          refine wp_region_held_drew (S := fun w' => w'.cell? ⟨u2.heap.size, 0, none⟩ = some (.slice d rs.length cd) ∧ v1.grownBy w' none) (by kernel_rfl) hb (fun hH => ?_)
          refine take_an 0 51 (v := ?v56) rfl rfl (by kernel_rfl) (by kernel_rfl) (by kernel_rfl) (fun _ _ _ h => h) (by rfl) ?y56 hH ?r56
          case y56 => (rintro w ⟨p0, p1⟩; go_simp; try with_reducible rfl)
          simp only [Act.put, List.setIfInBounds_toArray, List.set_cons_zero, List.set_cons_succ]
          refine take_an 1 52 (v := ?v57) rfl rfl (by kernel_rfl) (by kernel_rfl) (by kernel_rfl) (fun _ _ _ h => h) (by rfl) ?y57 hH ?r57
          case y57 => (rintro w ⟨p0, p1⟩; go_simp; try with_reducible rfl)
          simp only [Act.put, List.setIfInBounds_toArray, List.set_cons_zero, List.set_cons_succ]
          refine take_an 2 53 (v := ?v58) rfl rfl (by kernel_rfl) (by kernel_rfl) (by kernel_rfl) (fun _ _ _ h => h) (by rfl) ?y58 hH ?r58
          case y58 => (rintro w ⟨p0, p1⟩; go_simp; try with_reducible rfl)
          simp only [Act.put, List.setIfInBounds_toArray, List.set_cons_zero, List.set_cons_succ]
          refine take_an 3 54 (v := ?v59) rfl rfl (by kernel_rfl) (by kernel_rfl) (by kernel_rfl) (fun _ _ _ h => h) (by rfl) ?y59 hH ?r59
          case y59 => (rintro w ⟨p0, p1⟩; go_simp; try with_reducible rfl)
          simp only [Act.put, List.setIfInBounds_toArray, List.set_cons_zero, List.set_cons_succ]
          refine take_an 4 55 (v := ?v60) rfl rfl (by kernel_rfl) (by kernel_rfl) (by kernel_rfl) (fun _ _ _ h => h) (by rfl) ?y60 hH ?r60
          case y60 => (rintro w ⟨p0, p1⟩; go_simp; try with_reducible rfl)
          simp only [Act.put, List.setIfInBounds_toArray, List.set_cons_zero, List.set_cons_succ]
          refine take_an 5 56 (v := ?v61) rfl rfl (by kernel_rfl) (by kernel_rfl) (by kernel_rfl) (fun _ _ _ h => h) (by rfl) ?y61 hH ?r61
          case y61 => (rintro w ⟨p0, p1⟩; go_simp; try with_reducible rfl)
          simp only [Act.put, List.setIfInBounds_toArray, List.set_cons_zero, List.set_cons_succ]
          refine take_an 6 57 (v := ?v62) rfl rfl (by kernel_rfl) (by kernel_rfl) (by kernel_rfl) (fun _ _ _ h => h) (by rfl) ?y62 hH ?r62
          case y62 => (rintro w ⟨p0, p1⟩; go_simp; try with_reducible rfl)
          simp only [Act.put, List.setIfInBounds_toArray, List.set_cons_zero, List.set_cons_succ]
          refine take_an 8 59 (v := ?v63) rfl rfl (by kernel_rfl) (by kernel_rfl) (by kernel_rfl) (fun _ _ _ h => h) (by rfl) ?y63 hH ?r63
          case y63 => (rintro w ⟨p0, p1⟩; go_simp; try with_reducible rfl)
          simp only [Act.put, List.setIfInBounds_toArray, List.set_cons_zero, List.set_cons_succ]
          refine take_an 9 60 (v := ?v64) rfl rfl (by kernel_rfl) (by kernel_rfl) (by kernel_rfl) (fun _ _ _ h => h) (by rfl) ?y64 hH ?r64
          case y64 => (rintro w ⟨p0, p1⟩; go_simp; try with_reducible rfl)
          simp only [Act.put, List.setIfInBounds_toArray, List.set_cons_zero, List.set_cons_succ]
          refine take_an 10 61 (v := ?v65) rfl rfl (by kernel_rfl) (by kernel_rfl) (by kernel_rfl) (fun _ _ _ h => h) (by rfl) ?y65 hH ?r65
          case y65 => (rintro w ⟨p0, p1⟩; go_simp; try with_reducible rfl)
          simp only [Act.put, List.setIfInBounds_toArray, List.set_cons_zero, List.set_cons_succ]
          refine take_an 11 62 (v := ?v66) rfl rfl (by kernel_rfl) (by kernel_rfl) (by kernel_rfl) (fun _ _ _ h => h) (by rfl) ?y66 hH ?r66
          case y66 => (rintro w ⟨p0, p1⟩; go_simp; try with_reducible rfl)
          simp only [Act.put, List.setIfInBounds_toArray, List.set_cons_zero, List.set_cons_succ]
          refine take_an 12 63 (v := ?v67) rfl rfl (by kernel_rfl) (by kernel_rfl) (by kernel_rfl) (fun _ _ _ h => h) (by rfl) ?y67 hH ?r67
          case y67 => (rintro w ⟨p0, p1⟩; go_simp; try with_reducible rfl)
          simp only [Act.put, List.setIfInBounds_toArray, List.set_cons_zero, List.set_cons_succ]
          refine wpAnyH_ready (rs := [7]) (by kernel_rfl) (by simp) ?_
          refine AllReadyH.cons rfl (fun K hK => ?_) AllReadyH.nil
          go_simp
          refine (ct _ hH.2).mono ?_
          rintro e u6 ⟨rfl, g6⟩
          clear ct
          go_wp2_with fail
          refine hK.out _ _ (held_1 hH g6) (fun h6 => ?_)
          clear hK K
          try simp only [Act.put, List.setIfInBounds_toArray, List.set_cons_zero, List.set_cons_succ]
          refine take_an 13 64 (v := ?v68) rfl rfl (by kernel_rfl) (by kernel_rfl) (by kernel_rfl) (fun _ _ _ h => h) (by rfl) ?y68 h6 ?r68
          case y68 => (rintro w ⟨p0, p1⟩; go_simp; try with_reducible rfl)
          simp only [Act.put, List.setIfInBounds_toArray, List.set_cons_zero, List.set_cons_succ]
          refine wpAnyH_done (by kernel_rfl) ?_ _
          refine NoPanic.normal ?_
          have HE := Lib.hid h6.2
          clear hH h6 g6 hb
          go_wp2_with fail
          go_roundw
          case rel => exact ⟨2 + 1, by omega, rfl, HE.out⟩
          case measure => simp [intOf]
        · have q1 : ((m : Int) / 4) % 2 = 1 := by have := hcor.out; rw [g3] at this; exact beq_iff_eq.1 this
          have q2 : ((m : Int) / 4).tmod 2 = 1 := by rw [Int.tmod_eq_emod_of_nonneg (by omega)]; exact q1
          rw [g3] at ct
          simp only [if_true] at ct
          clear hcor g3
          go_wp2_with fail
          refine wp_region_noPanic ?_
          refine wp_region_held_drew (S := fun w' => w'.cell? ⟨u2.heap.size, 0, none⟩ = some (.slice d rs.length cd) ∧ v1.grownBy w' none) (by kernel_rfl) hb (fun hH => ?_)
          refine take_an 0 51 (v := ?v69) rfl rfl (by kernel_rfl) (by kernel_rfl) (by kernel_rfl) (fun _ _ _ h => h) (by rfl) ?y69 hH ?r69
          case y69 => (rintro w ⟨p0, p1⟩; go_simp; try with_reducible rfl)
          simp only [Act.put, List.setIfInBounds_toArray, List.set_cons_zero, List.set_cons_succ]
          refine take_an 1 52 (v := ?v70) rfl rfl (by kernel_rfl) (by kernel_rfl) (by kernel_rfl) (fun _ _ _ h => h) (by rfl) ?y70 hH ?r70
          case y70 => (rintro w ⟨p0, p1⟩; go_simp; try with_reducible rfl)
          simp only [Act.put, List.setIfInBounds_toArray, List.set_cons_zero, List.set_cons_succ]
          refine take_an 2 53 (v := ?v71) rfl rfl (by kernel_rfl) (by kernel_rfl) (by kernel_rfl) (fun _ _ _ h => h) (by rfl) ?y71 hH ?r71
          case y71 => (rintro w ⟨p0, p1⟩; go_simp; try with_reducible rfl)
          simp only [Act.put, List.setIfInBounds_toArray, List.set_cons_zero, List.set_cons_succ]
          refine take_an 3 54 (v := ?v72) rfl rfl (by kernel_rfl) (by kernel_rfl) (by kernel_rfl) (fun _ _ _ h => h) (by rfl) ?y72 hH ?r72
          case y72 => (rintro w ⟨p0, p1⟩; go_simp; try with_reducible rfl)
          simp only [Act.put, List.setIfInBounds_toArray, List.set_cons_zero, List.set_cons_succ]
          refine take_an 4 55 (v := ?v73) rfl rfl (by kernel_rfl) (by kernel_rfl) (by kernel_rfl) (fun _ _ _ h => h) (by rfl) ?y73 hH ?r73
          case y73 => (rintro w ⟨p0, p1⟩; go_simp; try with_reducible rfl)
          simp only [Act.put, List.setIfInBounds_toArray, List.set_cons_zero, List.set_cons_succ]
          refine take_an 5 56 (v := ?v74) rfl rfl (by kernel_rfl) (by kernel_rfl) (by kernel_rfl) (fun _ _ _ h => h) (by rfl) ?y74 hH ?r74
          case y74 => (rintro w ⟨p0, p1⟩; go_simp; try with_reducible rfl)
          simp only [Act.put, List.setIfInBounds_toArray, List.set_cons_zero, List.set_cons_succ]
          refine take_an 6 57 (v := ?v75) rfl rfl (by kernel_rfl) (by kernel_rfl) (by kernel_rfl) (fun _ _ _ h => h) (by rfl) ?y75 hH ?r75
          case y75 => (rintro w ⟨p0, p1⟩; go_simp; try with_reducible rfl)
          simp only [Act.put, List.setIfInBounds_toArray, List.set_cons_zero, List.set_cons_succ]
          refine take_an 8 59 (v := ?v76) rfl rfl (by kernel_rfl) (by kernel_rfl) (by kernel_rfl) (fun _ _ _ h => h) (by rfl) ?y76 hH ?r76
          case y76 => (rintro w ⟨p0, p1⟩; go_simp; try with_reducible rfl)
          simp only [Act.put, List.setIfInBounds_toArray, List.set_cons_zero, List.set_cons_succ]
          refine take_an 9 60 (v := ?v77) rfl rfl (by kernel_rfl) (by kernel_rfl) (by kernel_rfl) (fun _ _ _ h => h) (by rfl) ?y77 hH ?r77
          case y77 => (rintro w ⟨p0, p1⟩; go_simp; try with_reducible rfl)
          simp only [Act.put, List.setIfInBounds_toArray, List.set_cons_zero, List.set_cons_succ]
          refine take_an 10 61 (v := ?v78) rfl rfl (by kernel_rfl) (by kernel_rfl) (by kernel_rfl) (fun _ _ _ h => h) (by rfl) ?y78 hH ?r78
          case y78 => (rintro w ⟨p0, p1⟩; go_simp; try with_reducible rfl)
          simp only [Act.put, List.setIfInBounds_toArray, List.set_cons_zero, List.set_cons_succ]
          refine take_an 11 62 (v := ?v79) rfl rfl (by kernel_rfl) (by kernel_rfl) (by kernel_rfl) (fun _ _ _ h => h) (by rfl) ?y79 hH ?r79
          case y79 => (rintro w ⟨p0, p1⟩; go_simp; try with_reducible rfl)
          simp only [Act.put, List.setIfInBounds_toArray, List.set_cons_zero, List.set_cons_succ]
          refine take_an 12 63 (v := ?v80) rfl rfl (by kernel_rfl) (by kernel_rfl) (by kernel_rfl) (fun _ _ _ h => h) (by rfl) ?y80 hH ?r80
          case y80 => (rintro w ⟨p0, p1⟩; go_simp; try with_reducible rfl)
          simp only [Act.put, List.setIfInBounds_toArray, List.set_cons_zero, List.set_cons_succ]
          refine wpAnyH_ready (rs := [7]) (by kernel_rfl) (by simp) ?_
          refine AllReadyH.cons rfl (fun K hK => ?_) AllReadyH.nil
          go_simp
          refine (ct _ hH.2).mono ?_
          rintro e u6 ⟨rfl, g6⟩
          clear ct
          go_wp2_with fail
          refine hK.out _ _ (held_1 hH g6) (fun h6 => ?_)
          clear hK K
          try simp only [Act.put, List.setIfInBounds_toArray, List.set_cons_zero, List.set_cons_succ]
          refine take_an 13 64 (v := ?v81) rfl rfl (by kernel_rfl) (by kernel_rfl) (by kernel_rfl) (fun _ _ _ h => h) (by rfl) ?y81 h6 ?r81
          case y81 => (rintro w ⟨p0, p1⟩; go_simp; try with_reducible rfl)
          simp only [Act.put, List.setIfInBounds_toArray, List.set_cons_zero, List.set_cons_succ]
          refine wpAnyH_done (by kernel_rfl) ?_ _
          refine NoPanic.normal ?_
          have HE := Lib.hid h6.2
          clear hH h6 g6 hb
          go_wp2_with fail
          go_roundw
          case rel => exact ⟨2 + 1, by omega, rfl, HE.out⟩
          case measure => simp [intOf]
      · have hv : triAt rs 2 2 = if corB m 3 then 2 else 0 := by rw [HZ.out]; exact str_val HM.out (j := 3) (by omega)
        have hcor := Lib.hid (E.out.2.2.2)
        have ct := fun w2 (g : v1.grownBy w2 none) => itat_any d cd rs 2 2 w2 (I6.out.grown g)
        rw [hv] at ct
        clear hv E
        cases g3 : corB m 3
        · have q1 : ((m : Int) / 8) % 2 = 0 := by have := hcor.out; rw [g3] at this; have := beq_eq_false_iff_ne.1 this; omega
          have q2 : ((m : Int) / 8).tmod 2 = 0 := by rw [Int.tmod_eq_emod_of_nonneg (by omega)]; exact q1
          rw [g3] at ct
          simp only [if_false, Bool.false_eq_true] at ct
          clear hcor g3
          go_wp2_with fail
          refine wp_region_noPanic ?_
          refine wp_region_held_drew (S := fun w' => w'.cell? ⟨u2.heap.size, 0, none⟩ = some (.slice d rs.length cd) ∧ v1.grownBy w' none) (by kernel_rfl) hb (fun hH => ?_)
          refine take_an 0 51 (v := ?v82) rfl rfl (by kernel_rfl) (by kernel_rfl) (by kernel_rfl) (fun _ _ _ h => h) (by rfl) ?y82 hH ?r82
          case y82 => (rintro w ⟨p0, p1⟩; go_simp; try with_reducible rfl)
          simp only [Act.put, List.setIfInBounds_toArray, List.set_cons_zero, List.set_cons_succ]
          refine take_an 1 52 (v := ?v83) rfl rfl (by kernel_rfl) (by kernel_rfl) (by kernel_rfl) (fun _ _ _ h => h) (by rfl) ?y83 hH ?r83
          case y83 => (rintro w ⟨p0, p1⟩; go_simp; try with_reducible rfl)
          simp only [Act.put, List.setIfInBounds_toArray, List.set_cons_zero, List.set_cons_succ]
          refine take_an 2 53 (v := ?v84) rfl rfl (by kernel_rfl) (by kernel_rfl) (by kernel_rfl) (fun _ _ _ h => h) (by rfl) ?y84 hH ?r84
          case y84 => (rintro w ⟨p0, p1⟩; go_simp; try with_reducible rfl)
          simp only [Act.put, List.setIfInBounds_toArray, List.set_cons_zero, List.set_cons_succ]
          refine take_an 3 54 (v := ?v85) rfl rfl (by kernel_rfl) (by kernel_rfl) (by kernel_rfl) (fun _ _ _ h => h) (by rfl) ?y85 hH ?r85
          case y85 => (rintro w ⟨p0, p1⟩; go_simp; try with_reducible rfl)
          simp only [Act.put, List.setIfInBounds_toArray, List.set_cons_zero, List.set_cons_succ]
          refine take_an 4 55 (v := ?v86) rfl rfl (by kernel_rfl) (by kernel_rfl) (by kernel_rfl) (fun _ _ _ h => h) (by rfl) ?y86 hH ?r86
          case y86 => (rintro w ⟨p0, p1⟩; go_simp; try with_reducible rfl)
          simp only [Act.put, List.setIfInBounds_toArray, List.set_cons_zero, List.set_cons_succ]
          refine take_an 5 56 (v := ?v87) rfl rfl (by kernel_rfl) (by kernel_rfl) (by kernel_rfl) (fun _ _ _ h => h) (by rfl) ?y87 hH ?r87
          case y87 => (rintro w ⟨p0, p1⟩; go_simp; try with_reducible rfl)
          simp only [Act.put, List.setIfInBounds_toArray, List.set_cons_zero, List.set_cons_succ]
          refine take_an 6 57 (v := ?v88) rfl rfl (by kernel_rfl) (by kernel_rfl) (by kernel_rfl) (fun _ _ _ h => h) (by rfl) ?y88 hH ?r88
          case y88 => (rintro w ⟨p0, p1⟩; go_simp; try with_reducible rfl)
          simp only [Act.put, List.setIfInBounds_toArray, List.set_cons_zero, List.set_cons_succ]
          refine take_an 8 59 (v := ?v89) rfl rfl (by kernel_rfl) (by kernel_rfl) (by kernel_rfl) (fun _ _ _ h => h) (by rfl) ?y89 hH ?r89
          case y89 => (rintro w ⟨p0, p1⟩; go_simp; try with_reducible rfl)
          simp only [Act.put, List.setIfInBounds_toArray, List.set_cons_zero, List.set_cons_succ]
          refine take_an 9 60 (v := ?v90) rfl rfl (by kernel_rfl) (by kernel_rfl) (by kernel_rfl) (fun _ _ _ h => h) (by rfl) ?y90 hH ?r90
          case y90 => (rintro w ⟨p0, p1⟩; go_simp; try with_reducible rfl)
          simp only [Act.put, List.setIfInBounds_toArray, List.set_cons_zero, List.set_cons_succ]
          refine take_an 10 61 (v := ?v91) rfl rfl (by kernel_rfl) (by kernel_rfl) (by kernel_rfl) (fun _ _ _ h => h) (by rfl) ?y91 hH ?r91
          case y91 => (rintro w ⟨p0, p1⟩; go_simp; try with_reducible rfl)
          simp only [Act.put, List.setIfInBounds_toArray, List.set_cons_zero, List.set_cons_succ]
          refine take_an 11 62 (v := ?v92) rfl rfl (by kernel_rfl) (by kernel_rfl) (by kernel_rfl) (fun _ _ _ h => h) (by rfl) ?y92 hH ?r92
          case y92 => (rintro w ⟨p0, p1⟩; go_simp; try with_reducible rfl)
          simp only [Act.put, List.setIfInBounds_toArray, List.set_cons_zero, List.set_cons_succ]
          refine take_an 12 63 (v := ?v93) rfl rfl (by kernel_rfl) (by kernel_rfl) (by kernel_rfl) (fun _ _ _ h => h) (by rfl) ?y93 hH ?r93
          case y93 => (rintro w ⟨p0, p1⟩; go_simp; try with_reducible rfl)
          simp only [Act.put, List.setIfInBounds_toArray, List.set_cons_zero, List.set_cons_succ]
          refine wpAnyH_ready (rs := [7]) (by kernel_rfl) (by simp) ?_
          refine AllReadyH.cons rfl (fun K hK => ?_) AllReadyH.nil
          go_simp
          refine (ct _ hH.2).mono ?_
          rintro e u6 ⟨rfl, g6⟩
          clear ct
          go_wp2_with fail
          refine hK.out _ _ (held_1 hH g6) (fun h6 => ?_)
          clear hK K
          try simp only [Act.put, List.setIfInBounds_toArray, List.set_cons_zero, List.set_cons_succ]
          refine take_an 13 64 (v := ?v94) rfl rfl (by kernel_rfl) (by kernel_rfl) (by kernel_rfl) (fun _ _ _ h => h) (by rfl) ?y94 h6 ?r94
          case y94 => (rintro w ⟨p0, p1⟩; go_simp; try with_reducible rfl)
          simp only [Act.put, List.setIfInBounds_toArray, List.set_cons_zero, List.set_cons_succ]
          refine wpAnyH_done (by kernel_rfl) ?_ _
          refine NoPanic.normal ?_
          have HE := Lib.hid h6.2
          clear hH h6 g6 hb
          go_wp2_with fail
          go_roundw
          case rel => exact ⟨3 + 1, by omega, rfl, HE.out⟩
          case measure => simp [intOf]
        · have q1 : ((m : Int) / 8) % 2 = 1 := by have := hcor.out; rw [g3] at this; exact beq_iff_eq.1 this
          have q2 : ((m : Int) / 8).tmod 2 = 1 := by rw [Int.tmod_eq_emod_of_nonneg (by omega)]; exact q1
          rw [g3] at ct
          simp only [if_true] at ct
          clear hcor g3
          go_wp2_with fail
          refine wp_region_noPanic ?_
          refine wp_region_held_drew (S := fun w' => w'.cell? ⟨u2.heap.size, 0, none⟩ = some (.slice d rs.length cd) ∧ v1.grownBy w' none) (by kernel_rfl) hb (fun hH => ?_)
          refine take_an 0 51 (v := ?v95) rfl rfl (by kernel_rfl) (by kernel_rfl) (by kernel_rfl) (fun _ _ _ h => h) (by rfl) ?y95 hH ?r95
          case y95 => (rintro w ⟨p0, p1⟩; go_simp; try with_reducible rfl)
          simp only [Act.put, List.setIfInBounds_toArray, List.set_cons_zero, List.set_cons_succ]
          refine take_an 1 52 (v := ?v96) rfl rfl (by kernel_rfl) (by kernel_rfl) (by kernel_rfl) (fun _ _ _ h => h) (by rfl) ?y96 hH ?r96
          case y96 => (rintro w ⟨p0, p1⟩; go_simp; try with_reducible rfl)
          simp only [Act.put, List.setIfInBounds_toArray, List.set_cons_zero, List.set_cons_succ]
          refine take_an 2 53 (v := ?v97) rfl rfl (by kernel_rfl) (by kernel_rfl) (by kernel_rfl) (fun _ _ _ h => h) (by rfl) ?y97 hH ?r97
          case y97 => (rintro w ⟨p0, p1⟩; go_simp; try with_reducible rfl)
          simp only [Act.put, List.setIfInBounds_toArray, List.set_cons_zero, List.set_cons_succ]
          refine take_an 3 54 (v := ?v98) rfl rfl (by kernel_rfl) (by kernel_rfl) (by kernel_rfl) (fun _ _ _ h => h) (by rfl) ?y98 hH ?r98
          case y98 => (rintro w ⟨p0, p1⟩; go_simp; try with_reducible rfl)
          simp only [Act.put, List.setIfInBounds_toArray, List.set_cons_zero, List.set_cons_succ]
          refine take_an 4 55 (v := ?v99) rfl rfl (by kernel_rfl) (by kernel_rfl) (by kernel_rfl) (fun _ _ _ h => h) (by rfl) ?y99 hH ?r99
          case y99 => (rintro w ⟨p0, p1⟩; go_simp; try with_reducible rfl)
          simp only [Act.put, List.setIfInBounds_toArray, List.set_cons_zero, List.set_cons_succ]
          refine take_an 5 56 (v := ?v100) rfl rfl (by kernel_rfl) (by kernel_rfl) (by kernel_rfl) (fun _ _ _ h => h) (by rfl) ?y100 hH ?r100
          case y100 => (rintro w ⟨p0, p1⟩; go_simp; try with_reducible rfl)
          simp only [Act.put, List.setIfInBounds_toArray, List.set_cons_zero, List.set_cons_succ]
          refine take_an 6 57 (v := ?v101) rfl rfl (by kernel_rfl) (by kernel_rfl) (by kernel_rfl) (fun _ _ _ h => h) (by rfl) ?y101 hH ?r101
          case y101 => (rintro w ⟨p0, p1⟩; go_simp; try with_reducible rfl)
          simp only [Act.put, List.setIfInBounds_toArray, List.set_cons_zero, List.set_cons_succ]
          refine take_an 8 59 (v := ?v102) rfl rfl (by kernel_rfl) (by kernel_rfl) (by kernel_rfl) (fun _ _ _ h => h) (by rfl) ?y102 hH ?r102
          case y102 => (rintro w ⟨p0, p1⟩; go_simp; try with_reducible rfl)
          simp only [Act.put, List.setIfInBounds_toArray, List.set_cons_zero, List.set_cons_succ]
          refine take_an 9 60 (v := ?v103) rfl rfl (by kernel_rfl) (by kernel_rfl) (by kernel_rfl) (fun _ _ _ h => h) (by rfl) ?y103 hH ?r103
          case y103 => (rintro w ⟨p0, p1⟩; go_simp; try with_reducible rfl)
          simp only [Act.put, List.setIfInBounds_toArray, List.set_cons_zero, List.set_cons_succ]
          refine take_an 10 61 (v := ?v104) rfl rfl (by kernel_rfl) (by kernel_rfl) (by kernel_rfl) (fun _ _ _ h => h) (by rfl) ?y104 hH ?r104
          case y104 => (rintro w ⟨p0, p1⟩; go_simp; try with_reducible rfl)
          simp only [Act.put, List.setIfInBounds_toArray, List.set_cons_zero, List.set_cons_succ]
          refine take_an 11 62 (v := ?v105) rfl rfl (by kernel_rfl) (by kernel_rfl) (by kernel_rfl) (fun _ _ _ h => h) (by rfl) ?y105 hH ?r105
          case y105 => (rintro w ⟨p0, p1⟩; go_simp; try with_reducible rfl)
          simp only [Act.put, List.setIfInBounds_toArray, List.set_cons_zero, List.set_cons_succ]
          refine take_an 12 63 (v := ?v106) rfl rfl (by kernel_rfl) (by kernel_rfl) (by kernel_rfl) (fun _ _ _ h => h) (by rfl) ?y106 hH ?r106
          case y106 => (rintro w ⟨p0, p1⟩; go_simp; try with_reducible rfl)
          simp only [Act.put, List.setIfInBounds_toArray, List.set_cons_zero, List.set_cons_succ]
          refine wpAnyH_ready (rs := [7]) (by kernel_rfl) (by simp) ?_
          refine AllReadyH.cons rfl (fun K hK => ?_) AllReadyH.nil
          go_simp
          refine (ct _ hH.2).mono ?_
          rintro e u6 ⟨rfl, g6⟩
          clear ct
          go_wp2_with fail
          refine hK.out _ _ (held_1 hH g6) (fun h6 => ?_)
          clear hK K
          try simp only [Act.put, List.setIfInBounds_toArray, List.set_cons_zero, List.set_cons_succ]
          refine take_an 13 64 (v := ?v107) rfl rfl (by kernel_rfl) (by kernel_rfl) (by kernel_rfl) (fun _ _ _ h => h) (by rfl) ?y107 h6 ?r107
          case y107 => (rintro w ⟨p0, p1⟩; go_simp; try with_reducible rfl)
          simp only [Act.put, List.setIfInBounds_toArray, List.set_cons_zero, List.set_cons_succ]
          refine wpAnyH_done (by kernel_rfl) ?_ _
          refine NoPanic.normal ?_
          have HE := Lib.hid h6.2
          clear hH h6 g6 hb
          go_wp2_with fail
          go_roundw
          case rel => exact ⟨3 + 1, by omega, rfl, HE.out⟩
          case measure => simp [intOf]
    obtain rfl : j = 4 := by omega
    have HG := Lib.hid hgr
    clear hlt hj hgr
    have cd0 := DrawRegularOk_any _ _ _ _ _ (W1.out.grown' (grownBy_trans G1.out HG.out))
    go_wp2_with fail
    refine cd0.mono ?_
    rintro e u8 ⟨b, cb, ys, rfl, hI8, hg8⟩
    clear cd0
    have ga := World.grownBy_alloc u8 (.cells #[.slice b ys.length cb] 25) none
    have T8 := Lib.hid (T1.new u8 (.slice b ys.length cb))
    have I8 := Lib.hid (hI8.grown ga)
    have GV := Lib.hid (grownBy_trans HG.out (grownBy_trans hg8 ga))
    have n8 := T8.out.cell
    generalize hv2 : u8.alloc (.cells #[.slice b ys.length cb] 25) = v2 at *
    have I6b := Lib.hid (I6.out.grown GV.out)
    have G2 := Lib.hid (grownBy_trans G1.out GV.out)
    have C6b := Lib.hid (GV.out.cell C6.out (by simp))
    have C8 := Lib.hid n8
    have cr := ireg_any b cb ys v2 I8.out
    clear hI8 hg8 ga
    go_wp2_with fail
    clear hv2
    refine cr.mono ?_
    rintro e u9 ⟨rfl, g9⟩
    clear cr n8
    have H9 := Lib.hid g9
    clear g9
    have hz8 := Lib.hid nam8.1
    have hz14 := Lib.hid nam8.2
    have hl8 := Lib.hid len8.1
    have hl14 := Lib.hid len8.2
    obtain ⟨p8, hp8⟩ : ∃ p, strR 8 = p := ⟨_, rfl⟩
    obtain ⟨p14, hp14⟩ : ∃ p, strR 14 = p := ⟨_, rfl⟩
    have HP8 := Lib.hid hp8
    have HP14 := Lib.hid hp14
    clear hp8 hp14
    cases hreg : regB ys
    · clear hreg
      have cn := inam_any 0 u9
      rw [← hz8.out, HP8.out, show inN 0 = true from rfl] at cn
      go_wp2_with fail
      refine cn.mono ?_
      rintro e x10 ⟨e0, ce0, rfl, hO10, g10⟩
      clear cn
      have ga := World.grownBy_alloc x10 (.cells #[.slice e0 p8.length ce0] 25) none
      have T13 := Lib.hid (T1.new x10 (.slice e0 p8.length ce0))
      have I13 := Lib.hid ((hO10.kept ga).at (by rw [← HP8.out, hl8.out]; unfold maxLen; omega))
      have G3 := Lib.hid (grownBy_trans H9.out (grownBy_trans g10 ga))
      generalize hv3 : x10.alloc (.cells #[.slice e0 p8.length ce0] 25) = v3 at *
      clear hO10 g10 ga
      have cn := inam_any 1 v3
      rw [← hz14.out, HP14.out, show inN 1 = true from rfl] at cn
      go_wp2_with fail
      clear hv3
      refine cn.mono ?_
      rintro e x11 ⟨e1, ce1, rfl, hO11, g11⟩
      clear cn
      have ga := World.grownBy_alloc x11 (.cells #[.slice e1 p14.length ce1] 25) none
      have T15 := Lib.hid (T1.new x11 (.slice e1 p14.length ce1))
      have I15 := Lib.hid ((hO11.kept ga).at (by rw [← HP14.out, hl14.out]; unfold maxLen; omega))
      have g34 := grownBy_trans g11 ga
      have G4 := Lib.hid (grownBy_trans G3.out g34)
      generalize hv4 : x11.alloc (.cells #[.slice e1 p14.length ce1] 25) = v4 at *
      have C6d := Lib.hid (G4.out.cell C6b.out (by simp))
      have C13 := Lib.hid (g34.cell T13.out.cell (by simp))
      have C15 := Lib.hid T15.out.cell
      have I13b := Lib.hid (I13.out.grown g34)
      have I6d := Lib.hid (I6b.out.grown G4.out)
      have hrr : regB rs = true := by rw [HZ.out]; exact str_regm HM.out
      have c6 := fun w2 (g : v4.grownBy w2 none) => ireg_any d cd rs w2 (I6d.out.grown g)
      rw [hrr] at c6
      have c8 := fun w2 => istr_any 8 w2
      have c14 := fun w2 => istr_any 14 w2
      rw [HP8.out] at c8
      rw [HP14.out] at c14
      clear hO11 g11 ga g34 hrr
      have hgd : v4.grownBy v4.drew none := grownBy_drew (grownBy_refl _ _)
      have hb : v4.drew.cell? ⟨u2.heap.size, 0, none⟩ = some (.slice d rs.length cd) ∧ v4.drew.cell? ⟨x10.heap.size, 0, none⟩ = some (.slice e0 p8.length ce0) ∧ v4.drew.cell? ⟨x11.heap.size, 0, none⟩ = some (.slice e1 p14.length ce1) ∧ v4.grownBy v4.drew none := ⟨hgd.cell C6d.out (by simp), hgd.cell C13.out (by simp), hgd.cell C15.out (by simp), hgd⟩
      clear hgd
      go_wp2_with fail
      clear hv4
      refine wp_region_noPanic ?_
      refine wp_region_held_drew (S := fun w' => w'.cell? ⟨u2.heap.size, 0, none⟩ = some (.slice d rs.length cd) ∧ w'.cell? ⟨x10.heap.size, 0, none⟩ = some (.slice e0 p8.length ce0) ∧ w'.cell? ⟨x11.heap.size, 0, none⟩ = some (.slice e1 p14.length ce1) ∧ v4.grownBy w' none) (by kernel_rfl) hb (fun hH => ?_)
      refine take_an 0 123 (v := ?v108) rfl rfl (by kernel_rfl) (by kernel_rfl) (by kernel_rfl) (fun _ _ _ h => h) (by rfl) ?y108 hH ?r108
      case y108 => (rintro w ⟨p0, p1, p2, p3⟩; go_simp; try with_reducible rfl)
      simp only [Act.put, List.setIfInBounds_toArray, List.set_cons_zero, List.set_cons_succ]
      refine wpAnyH_ready (rs := [1]) (by kernel_rfl) (by simp) ?_
      refine AllReadyH.cons rfl (fun K hK => ?_) AllReadyH.nil
      go_simp
      refine (c6 _ hH.2.2.2).mono ?_
      rintro e x12 ⟨rfl, g12⟩
      clear c6
      go_wp2_with fail
      refine hK.out _ _ (held_3 hH g12) (fun k1 => ?_)
      clear hK K
      try simp only [Act.put, List.setIfInBounds_toArray, List.set_cons_zero, List.set_cons_succ]
      refine take_an 2 125 (v := ?v109) rfl rfl (by kernel_rfl) (by kernel_rfl) (by kernel_rfl) (fun _ _ _ h => h) (by rfl) ?y109 k1 ?r109
      case y109 => (rintro w ⟨p0, p1, p2, p3⟩; go_simp; try with_reducible rfl)
      simp only [Act.put, List.setIfInBounds_toArray, List.set_cons_zero, List.set_cons_succ]
      refine take_an 3 126 (v := ?v110) rfl rfl (by kernel_rfl) (by kernel_rfl) (by kernel_rfl) (fun _ _ _ h => h) (by rfl) ?y110 k1 ?r110
      case y110 => (rintro w ⟨p0, p1, p2, p3⟩; go_simp; try with_reducible rfl)
      simp only [Act.put, List.setIfInBounds_toArray, List.set_cons_zero, List.set_cons_succ]
      refine take_an 4 127 (v := ?v111) rfl rfl (by kernel_rfl) (by kernel_rfl) (by kernel_rfl) (fun _ _ _ h => h) (by rfl) ?y111 k1 ?r111
      case y111 => (rintro w ⟨p0, p1, p2, p3⟩; go_simp; try with_reducible rfl)
      simp only [Act.put, List.setIfInBounds_toArray, List.set_cons_zero, List.set_cons_succ]
      refine take_an 5 128 (v := ?v112) rfl rfl (by kernel_rfl) (by kernel_rfl) (by kernel_rfl) (fun _ _ _ h => h) (by rfl) ?y112 k1 ?r112
      case y112 => (rintro w ⟨p0, p1, p2, p3⟩; go_simp; try with_reducible rfl)
      simp only [Act.put, List.setIfInBounds_toArray, List.set_cons_zero, List.set_cons_succ]
      refine take_an 6 129 (v := ?v113) rfl rfl (by kernel_rfl) (by kernel_rfl) (by kernel_rfl) (fun _ _ _ h => h) (by rfl) ?y113 k1 ?r113
      case y113 => (rintro w ⟨p0, p1, p2, p3⟩; go_simp; try with_reducible rfl)
      simp only [Act.put, List.setIfInBounds_toArray, List.set_cons_zero, List.set_cons_succ]
      refine take_an 7 130 (v := ?v114) rfl rfl (by kernel_rfl) (by kernel_rfl) (by kernel_rfl) (fun _ _ _ h => h) (by rfl) ?y114 k1 ?r114
      case y114 => (rintro w ⟨p0, p1, p2, p3⟩; go_simp; try with_reducible rfl)
      simp only [Act.put, List.setIfInBounds_toArray, List.set_cons_zero, List.set_cons_succ]
      refine take_an 8 131 (v := ?v115) rfl rfl (by kernel_rfl) (by kernel_rfl) (by kernel_rfl) (fun _ _ _ h => h) (by rfl) ?y115 k1 ?r115
      case y115 => (rintro w ⟨p0, p1, p2, p3⟩; go_simp; try with_reducible rfl)
      simp only [Act.put, List.setIfInBounds_toArray, List.set_cons_zero, List.set_cons_succ]
      refine take_an 10 133 (v := ?v116) rfl rfl (by kernel_rfl) (by kernel_rfl) (by kernel_rfl) (fun _ _ _ h => h) (by rfl) ?y116 k1 ?r116
      case y116 => (rintro w ⟨p0, p1, p2, p3⟩; go_simp; try with_reducible rfl)
      simp only [Act.put, List.setIfInBounds_toArray, List.set_cons_zero, List.set_cons_succ]
      refine wpAnyH_ready (rs := [9]) (by kernel_rfl) (by simp) ?_
      refine AllReadyH.cons rfl (fun K hK => ?_) AllReadyH.nil
      go_simp
      refine (c8 _).mono ?_
      rintro e x13 ⟨f0, cf0, rfl, hO13, g13⟩
      have J13 := Lib.hid (hO13.at (by rw [← HP8.out, hl8.out]; unfold maxLen; omega))
      clear c8 hO13
      go_wp2_with fail
      refine hK.out _ _ (held_3 k1 g13) (fun k2 => ?_)
      clear hK K
      try simp only [Act.put, List.setIfInBounds_toArray, List.set_cons_zero, List.set_cons_succ]
      refine wpAnyH_ready (rs := [11]) (by kernel_rfl) (by simp) ?_
      refine AllReadyH.cons rfl (fun K hK => ?_) AllReadyH.nil
      go_simp
      have ce := sameT_any f0 e0 cf0 ce0 p8 p8 x13 J13.out (I13b.out.grown k2.2.2.2)
      rw [sameL_self] at ce
      refine ce.mono ?_
      rintro e x14 ⟨rfl, g14⟩
      clear ce
      go_wp2_with fail
      refine hK.out _ _ (held_3 k2 g14) (fun k3 => ?_)
      clear hK K
      try simp only [Act.put, List.setIfInBounds_toArray, List.set_cons_zero, List.set_cons_succ]
      refine take_an 12 135 (v := ?v117) rfl rfl (by kernel_rfl) (by kernel_rfl) (by kernel_rfl) (fun _ _ _ h => h) (by rfl) ?y117 k3 ?r117
      case y117 => (rintro w ⟨p0, p1, p2, p3⟩; go_simp; try with_reducible rfl)
      simp only [Act.put, List.setIfInBounds_toArray, List.set_cons_zero, List.set_cons_succ]
      refine take_an 13 136 (v := ?v118) rfl rfl (by kernel_rfl) (by kernel_rfl) (by kernel_rfl) (fun _ _ _ h => h) (by rfl) ?y118 k3 ?r118
      case y118 => (rintro w ⟨p0, p1, p2, p3⟩; go_simp; try with_reducible rfl)
      simp only [Act.put, List.setIfInBounds_toArray, List.set_cons_zero, List.set_cons_succ]
      refine take_an 15 138 (v := ?v119) rfl rfl (by kernel_rfl) (by kernel_rfl) (by kernel_rfl) (fun _ _ _ h => h) (by rfl) ?y119 k3 ?r119
      case y119 => (rintro w ⟨p0, p1, p2, p3⟩; go_simp; try with_reducible rfl)
      simp only [Act.put, List.setIfInBounds_toArray, List.set_cons_zero, List.set_cons_succ]
      refine wpAnyH_ready (rs := [14]) (by kernel_rfl) (by simp) ?_
      refine AllReadyH.cons rfl (fun K hK => ?_) AllReadyH.nil
      go_simp
      refine (c14 _).mono ?_
      rintro e x15 ⟨f1, cf1, rfl, hO15, g15⟩
      have J15 := Lib.hid (hO15.at (by rw [← HP14.out, hl14.out]; unfold maxLen; omega))
      clear c14 hO15
      go_wp2_with fail
      refine hK.out _ _ (held_3 k3 g15) (fun k4 => ?_)
      clear hK K
      try simp only [Act.put, List.setIfInBounds_toArray, List.set_cons_zero, List.set_cons_succ]
      refine wpAnyH_ready (rs := [16]) (by kernel_rfl) (by simp) ?_
      refine AllReadyH.cons rfl (fun K hK => ?_) AllReadyH.nil
      go_simp
      have ce := sameT_any f1 e1 cf1 ce1 p14 p14 x15 J15.out (I15.out.grown k4.2.2.2)
      rw [sameL_self] at ce
      refine ce.mono ?_
      rintro e x16 ⟨rfl, g16⟩
      clear ce
      go_wp2_with fail
      refine hK.out _ _ (held_3 k4 g16) (fun k5 => ?_)
      clear hK K
      try simp only [Act.put, List.setIfInBounds_toArray, List.set_cons_zero, List.set_cons_succ]
      refine take_an 17 140 (v := ?v120) rfl rfl (by kernel_rfl) (by kernel_rfl) (by kernel_rfl) (fun _ _ _ h => h) (by rfl) ?y120 k5 ?r120
      case y120 => (rintro w ⟨p0, p1, p2, p3⟩; go_simp; try with_reducible rfl)
      simp only [Act.put, List.setIfInBounds_toArray, List.set_cons_zero, List.set_cons_succ]
      refine take_an 18 4 (v := ?v121) rfl rfl (by kernel_rfl) (by kernel_rfl) (by kernel_rfl) (fun _ _ _ h => h) (by rfl) ?y121 k5 ?r121
      case y121 => (rintro w ⟨p0, p1, p2, p3⟩; go_simp; try with_reducible rfl)
      simp only [Act.put, List.setIfInBounds_toArray, List.set_cons_zero, List.set_cons_succ]
      refine wpAnyH_done (by kernel_rfl) ?_ _
      refine NoPanic.normal ?_
      go_wp2_with fail
      go_ret
      exact ⟨rfl, below_of (grownBy_trans G2.out (grownBy_trans G4.out k5.2.2.2))⟩
    · have HRG := Lib.hid hreg
      have HTY := Lib.hid (regB_of hreg).1
      clear hreg
      go_wp2_with fail
      go_loopw [9, 10] (fun q i wr => ∃ j : Nat, j ≤ 4 ∧ q = .bool (agB ys m j) ∧ i = .int .i64 j ∧ v2.grownBy wr none) (fun _ i _ => 4 - (intOf i).toNat)
      case atStart => exact ⟨0, by omega, rfl, rfl, H9.out⟩
      case round =>
        obtain ⟨j, hj, rfl, rfl, hgr⟩ := hrel
        by_cases hlt : j < 4
        · have HG2 := Lib.hid hgr
          have hgd := grownBy_drew hgr
          have hb : wr.drew.cell? ⟨u8.heap.size, 0, none⟩ = some (.slice b ys.length cb) ∧ v2.grownBy wr.drew none := ⟨hgd.cell C8.out (by simp), hgd⟩
          clear hgd hgr
          have hj4 : j = 0 ∨ j = 1 ∨ j = 2 ∨ j = 3 := by omega
          clear hlt hj
          have E := Lib.hid (shr_at HM.out)
          have AS := Lib.hid (ag_step ys m j)
          rcases hj4 with rfl | rfl | rfl | rfl
          · have hv : triAt ys 0 0 = ys.getD 0 0 := at_w HTY.out (j := 0) (by omega)
            have hcor := Lib.hid (E.out.1)
            have as' : Hid (agB ys m (0 + 1) = (agB ys m 0 && (ys.getD 0 0 == if corB m 0 then 2 else 0))) := AS
            have ct := fun w2 (g : v2.grownBy w2 none) => itat_any b cb ys 0 0 w2 (I8.out.grown g)
            rw [hv] at ct
            clear hv E AS
            generalize ys.getD 0 0 = y at *
            cases hag : agB ys m 0
            · have HS : Hid (agB ys m (0 + 1) = false) := by unfold Hid; rw [as'.out, hag]; rfl
              clear hcor ct as' hag
              go_wp2_with fail
              refine wp_region_noPanic ?_
              refine wp_region_held_drew (S := fun w' => w'.cell? ⟨u8.heap.size, 0, none⟩ = some (.slice b ys.length cb) ∧ v2.grownBy w' none) (by kernel_rfl) hb (fun hH => ?_)
              refine take_an 0 73 (v := ?v122) rfl rfl (by kernel_rfl) (by kernel_rfl) (by kernel_rfl) (fun _ _ _ h => h) (by rfl) ?y122 hH ?r122
              case y122 => (rintro w ⟨p0, p1⟩; go_simp; try with_reducible rfl)
              simp only [Act.put, List.setIfInBounds_toArray, List.set_cons_zero, List.set_cons_succ]
              refine take_an 1 74 (v := ?v123) rfl rfl (by kernel_rfl) (by kernel_rfl) (by kernel_rfl) (fun _ _ _ h => h) (by rfl) ?y123 hH ?r123
              case y123 => (rintro w ⟨p0, p1⟩; go_simp; try with_reducible rfl)
              simp only [Act.put, List.setIfInBounds_toArray, List.set_cons_zero, List.set_cons_succ]
              refine drop_an 2 75 rfl rfl (by kernel_rfl) (by kernel_rfl) (by kernel_rfl) (fun _ _ _ h => h) (by rfl) hH ?_
              simp only [Act.put, List.setIfInBounds_toArray, List.set_cons_zero, List.set_cons_succ]
              refine drop_an 3 76 rfl rfl (by kernel_rfl) (by kernel_rfl) (by kernel_rfl) (fun _ _ _ h => h) (by rfl) hH ?_
              simp only [Act.put, List.setIfInBounds_toArray, List.set_cons_zero, List.set_cons_succ]
              refine drop_an 4 77 rfl rfl (by kernel_rfl) (by kernel_rfl) (by kernel_rfl) (fun _ _ _ h => h) (by rfl) hH ?_
              simp only [Act.put, List.setIfInBounds_toArray, List.set_cons_zero, List.set_cons_succ]
              refine drop_an 5 78 rfl rfl (by kernel_rfl) (by kernel_rfl) (by kernel_rfl) (fun _ _ _ h => h) (by rfl) hH ?_
              simp only [Act.put, List.setIfInBounds_toArray, List.set_cons_zero, List.set_cons_succ]
              refine drop_an 6 79 rfl rfl (by kernel_rfl) (by kernel_rfl) (by kernel_rfl) (fun _ _ _ h => h) (by rfl) hH ?_
              simp only [Act.put, List.setIfInBounds_toArray, List.set_cons_zero, List.set_cons_succ]
              refine drop_an 7 80 rfl rfl (by kernel_rfl) (by kernel_rfl) (by kernel_rfl) (fun _ _ _ h => h) (by rfl) hH ?_
              simp only [Act.put, List.setIfInBounds_toArray, List.set_cons_zero, List.set_cons_succ]
              refine drop_an 8 81 rfl rfl (by kernel_rfl) (by kernel_rfl) (by kernel_rfl) (fun _ _ _ h => h) (by rfl) hH ?_
              simp only [Act.put, List.setIfInBounds_toArray, List.set_cons_zero, List.set_cons_succ]
              refine drop_an 9 82 rfl rfl (by kernel_rfl) (by kernel_rfl) (by kernel_rfl) (fun _ _ _ h => h) (by rfl) hH ?_
              simp only [Act.put, List.setIfInBounds_toArray, List.set_cons_zero, List.set_cons_succ]
              refine drop_an 10 83 rfl rfl (by kernel_rfl) (by kernel_rfl) (by kernel_rfl) (fun _ _ _ h => h) (by rfl) hH ?_
              simp only [Act.put, List.setIfInBounds_toArray, List.set_cons_zero, List.set_cons_succ]
              refine drop_an 11 84 rfl rfl (by kernel_rfl) (by kernel_rfl) (by kernel_rfl) (fun _ _ _ h => h) (by rfl) hH ?_
              simp only [Act.put, List.setIfInBounds_toArray, List.set_cons_zero, List.set_cons_succ]
              refine drop_an 12 85 rfl rfl (by kernel_rfl) (by kernel_rfl) (by kernel_rfl) (fun _ _ _ h => h) (by rfl) hH ?_
              simp only [Act.put, List.setIfInBounds_toArray, List.set_cons_zero, List.set_cons_succ]
              refine drop_an 13 86 rfl rfl (by kernel_rfl) (by kernel_rfl) (by kernel_rfl) (fun _ _ _ h => h) (by rfl) hH ?_
              simp only [Act.put, List.setIfInBounds_toArray, List.set_cons_zero, List.set_cons_succ]
              refine drop_an 14 87 rfl rfl (by kernel_rfl) (by kernel_rfl) (by kernel_rfl) (fun _ _ _ h => h) (by rfl) hH ?_
              simp only [Act.put, List.setIfInBounds_toArray, List.set_cons_zero, List.set_cons_succ]
              refine drop_an 15 88 rfl rfl (by kernel_rfl) (by kernel_rfl) (by kernel_rfl) (fun _ _ _ h => h) (by rfl) hH ?_
              simp only [Act.put, List.setIfInBounds_toArray, List.set_cons_zero, List.set_cons_succ]
              refine take_an 16 89 (v := ?v124) rfl rfl (by kernel_rfl) (by kernel_rfl) (by kernel_rfl) (fun _ _ _ h => h) (by rfl) ?y124 hH ?r124
              case y124 => (rintro w ⟨p0, p1⟩; go_simp; try with_reducible rfl)
              simp only [Act.put, List.setIfInBounds_toArray, List.set_cons_zero, List.set_cons_succ]
              refine take_an 17 9 (v := ?v125) rfl rfl (by kernel_rfl) (by kernel_rfl) (by kernel_rfl) (fun _ _ _ h => h) (by rfl) ?y125 hH ?r125
              case y125 => (rintro w ⟨p0, p1⟩; go_simp; try with_reducible rfl)
              simp only [Act.put, List.setIfInBounds_toArray, List.set_cons_zero, List.set_cons_succ]
              refine wpAnyH_done (by kernel_rfl) ?_ _
              refine NoPanic.normal ?_
              have HE := Lib.hid hH.2
              clear hH hb
              go_wp2_with fail
              go_roundw
              case rel => exact ⟨0 + 1, by omega, by rw [HS.out], rfl, HE.out⟩
              case measure => simp [intOf]
            · cases g3 : corB m 0
              · have q1 : (m : Int) % 2 = 0 := by have := hcor.out; rw [g3] at this; have := beq_eq_false_iff_ne.1 this; omega
                have q2 : (m : Int).tmod 2 = 0 := by rw [Int.tmod_eq_emod_of_nonneg (by omega)]; exact q1
                have HS : Hid (agB ys m (0 + 1) = (y == 0)) := by unfold Hid; rw [as'.out, hag, g3]; rfl
                clear hcor g3 as' hag
                obtain ⟨be, hbe⟩ : ∃ be, (y == 0) = be := ⟨_, rfl⟩
                rw [hbe] at HS
                go_wp2_with fail
                refine wp_region_noPanic ?_
                refine wp_region_held_drew (S := fun w' => w'.cell? ⟨u8.heap.size, 0, none⟩ = some (.slice b ys.length cb) ∧ v2.grownBy w' none) (by kernel_rfl) hb (fun hH => ?_)
                refine take_an 0 73 (v := ?v126) rfl rfl (by kernel_rfl) (by kernel_rfl) (by kernel_rfl) (fun _ _ _ h => h) (by rfl) ?y126 hH ?r126
                case y126 => (rintro w ⟨p0, p1⟩; go_simp; try with_reducible rfl)
                simp only [Act.put, List.setIfInBounds_toArray, List.set_cons_zero, List.set_cons_succ]
                refine take_an 1 74 (v := ?v127) rfl rfl (by kernel_rfl) (by kernel_rfl) (by kernel_rfl) (fun _ _ _ h => h) (by rfl) ?y127 hH ?r127
                case y127 => (rintro w ⟨p0, p1⟩; go_simp; try with_reducible rfl)
                simp only [Act.put, List.setIfInBounds_toArray, List.set_cons_zero, List.set_cons_succ]
                refine take_an 2 75 (v := ?v128) rfl rfl (by kernel_rfl) (by kernel_rfl) (by kernel_rfl) (fun _ _ _ h => h) (by rfl) ?y128 hH ?r128
                case y128 => (rintro w ⟨p0, p1⟩; go_simp; try with_reducible rfl)
                simp only [Act.put, List.setIfInBounds_toArray, List.set_cons_zero, List.set_cons_succ]
                refine take_an 3 76 (v := ?v129) rfl rfl (by kernel_rfl) (by kernel_rfl) (by kernel_rfl) (fun _ _ _ h => h) (by rfl) ?y129 hH ?r129
                case y129 => (rintro w ⟨p0, p1⟩; go_simp; try with_reducible rfl)
                simp only [Act.put, List.setIfInBounds_toArray, List.set_cons_zero, List.set_cons_succ]
                refine take_an 4 77 (v := ?v130) rfl rfl (by kernel_rfl) (by kernel_rfl) (by kernel_rfl) (fun _ _ _ h => h) (by rfl) ?y130 hH ?r130
                case y130 => (rintro w ⟨p0, p1⟩; go_simp; try with_reducible rfl)
                simp only [Act.put, List.setIfInBounds_toArray, List.set_cons_zero, List.set_cons_succ]
                refine take_an 5 78 (v := ?v131) rfl rfl (by kernel_rfl) (by kernel_rfl) (by kernel_rfl) (fun _ _ _ h => h) (by rfl) ?y131 hH ?r131
                case y131 => (rintro w ⟨p0, p1⟩; go_simp; try with_reducible rfl)
                simp only [Act.put, List.setIfInBounds_toArray, List.set_cons_zero, List.set_cons_succ]
                refine take_an 6 79 (v := ?v132) rfl rfl (by kernel_rfl) (by kernel_rfl) (by kernel_rfl) (fun _ _ _ h => h) (by rfl) ?y132 hH ?r132
                case y132 => (rintro w ⟨p0, p1⟩; go_simp; try with_reducible rfl)
                simp only [Act.put, List.setIfInBounds_toArray, List.set_cons_zero, List.set_cons_succ]
                refine take_an 7 80 (v := ?v133) rfl rfl (by kernel_rfl) (by kernel_rfl) (by kernel_rfl) (fun _ _ _ h => h) (by rfl) ?y133 hH ?r133
                case y133 => (rintro w ⟨p0, p1⟩; go_simp; try with_reducible rfl)
                simp only [Act.put, List.setIfInBounds_toArray, List.set_cons_zero, List.set_cons_succ]
                refine take_an 8 81 (v := ?v134) rfl rfl (by kernel_rfl) (by kernel_rfl) (by kernel_rfl) (fun _ _ _ h => h) (by rfl) ?y134 hH ?r134
                case y134 => (rintro w ⟨p0, p1⟩; go_simp; try with_reducible rfl)
                simp only [Act.put, List.setIfInBounds_toArray, List.set_cons_zero, List.set_cons_succ]
                refine take_an 10 83 (v := ?v135) rfl rfl (by kernel_rfl) (by kernel_rfl) (by kernel_rfl) (fun _ _ _ h => h) (by rfl) ?y135 hH ?r135
                case y135 => (rintro w ⟨p0, p1⟩; go_simp; try with_reducible rfl)
                simp only [Act.put, List.setIfInBounds_toArray, List.set_cons_zero, List.set_cons_succ]
                refine take_an 11 84 (v := ?v136) rfl rfl (by kernel_rfl) (by kernel_rfl) (by kernel_rfl) (fun _ _ _ h => h) (by rfl) ?y136 hH ?r136
                case y136 => (rintro w ⟨p0, p1⟩; go_simp; try with_reducible rfl)
                simp only [Act.put, List.setIfInBounds_toArray, List.set_cons_zero, List.set_cons_succ]
                refine take_an 12 85 (v := ?v137) rfl rfl (by kernel_rfl) (by kernel_rfl) (by kernel_rfl) (fun _ _ _ h => h) (by rfl) ?y137 hH ?r137
                case y137 => (rintro w ⟨p0, p1⟩; go_simp; try with_reducible rfl)
                simp only [Act.put, List.setIfInBounds_toArray, List.set_cons_zero, List.set_cons_succ]
                refine take_an 13 86 (v := ?v138) rfl rfl (by kernel_rfl) (by kernel_rfl) (by kernel_rfl) (fun _ _ _ h => h) (by rfl) ?y138 hH ?r138
                case y138 => (rintro w ⟨p0, p1⟩; go_simp; try with_reducible rfl)
                simp only [Act.put, List.setIfInBounds_toArray, List.set_cons_zero, List.set_cons_succ]
                refine take_an 14 87 (v := ?v139) rfl rfl (by kernel_rfl) (by kernel_rfl) (by kernel_rfl) (fun _ _ _ h => h) (by rfl) ?y139 hH ?r139
                case y139 => (rintro w ⟨p0, p1⟩; go_simp; try with_reducible rfl)
                simp only [Act.put, List.setIfInBounds_toArray, List.set_cons_zero, List.set_cons_succ]
                refine wpAnyH_ready (rs := [9]) (by kernel_rfl) (by simp) ?_
                refine AllReadyH.cons rfl (fun K hK => ?_) AllReadyH.nil
                go_simp
                refine (ct _ hH.2).mono ?_
                rintro e u6 ⟨rfl, g6⟩
                clear ct
                go_wp2_with fail
                refine hK.out _ _ (held_1 hH g6) (fun h6 => ?_)
                clear hK K
                try simp only [Act.put, List.setIfInBounds_toArray, List.set_cons_zero, List.set_cons_succ]
                refine take_an 15 88 (v := ?v140) rfl rfl (by kernel_rfl) (by kernel_rfl) (by kernel_rfl) (fun _ _ _ h => h) (by rfl) ?y140 h6 ?r140
                case y140 => (rintro w ⟨p0, p1⟩; go_simp; try with_reducible rfl)
                simp only [Act.put, List.setIfInBounds_toArray, List.set_cons_zero, List.set_cons_succ]
                refine take_an 16 89 (v := ?v141) rfl rfl (by kernel_rfl) (by kernel_rfl) (by kernel_rfl) (fun _ _ _ h => h) (by rfl) ?y141 h6 ?r141
                case y141 => (rintro w ⟨p0, p1⟩; go_simp; try with_reducible rfl)
                simp only [Act.put, List.setIfInBounds_toArray, List.set_cons_zero, List.set_cons_succ]
                refine take_an 17 9 (v := ?v142) rfl rfl (by kernel_rfl) (by kernel_rfl) (by kernel_rfl) (fun _ _ _ h => h) (by rfl) ?y142 h6 ?r142
                case y142 => (rintro w ⟨p0, p1⟩; go_simp; try with_reducible rfl)
                simp only [Act.put, List.setIfInBounds_toArray, List.set_cons_zero, List.set_cons_succ]
                refine wpAnyH_done (by kernel_rfl) ?_ _
                refine NoPanic.normal ?_
                have HE := Lib.hid h6.2
                clear hH h6 g6 hb
                go_wp2_with fail
                go_roundw
                case rel => exact ⟨0 + 1, by omega, by rw [HS.out]; exact congrArg Value.bool hbe, rfl, HE.out⟩
                case measure => simp [intOf]
              · have q1 : (m : Int) % 2 = 1 := by have := hcor.out; rw [g3] at this; exact beq_iff_eq.1 this
                have q2 : (m : Int).tmod 2 = 1 := by rw [Int.tmod_eq_emod_of_nonneg (by omega)]; exact q1
                have HS : Hid (agB ys m (0 + 1) = (y == 2)) := by unfold Hid; rw [as'.out, hag, g3]; rfl
                clear hcor g3 as' hag
                obtain ⟨be, hbe⟩ : ∃ be, (y == 2) = be := ⟨_, rfl⟩
                rw [hbe] at HS
                go_wp2_with fail
                refine wp_region_noPanic ?_
                refine wp_region_held_drew (S := fun w' => w'.cell? ⟨u8.heap.size, 0, none⟩ = some (.slice b ys.length cb) ∧ v2.grownBy w' none) (by kernel_rfl) hb (fun hH => ?_)
                refine take_an 0 73 (v := ?v143) rfl rfl (by kernel_rfl) (by kernel_rfl) (by kernel_rfl) (fun _ _ _ h => h) (by rfl) ?y143 hH ?r143
                case y143 => (rintro w ⟨p0, p1⟩; go_simp; try with_reducible rfl)
                simp only [Act.put, List.setIfInBounds_toArray, List.set_cons_zero, List.set_cons_succ]
                refine take_an 1 74 (v := ?v144) rfl rfl (by kernel_rfl) (by kernel_rfl) (by kernel_rfl) (fun _ _ _ h => h) (by rfl) ?y144 hH ?r144
                case y144 => (rintro w ⟨p0, p1⟩; go_simp; try with_reducible rfl)
                simp only [Act.put, List.setIfInBounds_toArray, List.set_cons_zero, List.set_cons_succ]
                refine take_an 2 75 (v := ?v145) rfl rfl (by kernel_rfl) (by kernel_rfl) (by kernel_rfl) (fun _ _ _ h => h) (by rfl) ?y145 hH ?r145
                case y145 => (rintro w ⟨p0, p1⟩; go_simp; try with_reducible rfl)
                simp only [Act.put, List.setIfInBounds_toArray, List.set_cons_zero, List.set_cons_succ]
                refine take_an 3 76 (v := ?v146) rfl rfl (by kernel_rfl) (by kernel_rfl) (by kernel_rfl) (fun _ _ _ h => h) (by rfl) ?y146 hH ?r146
                case y146 => (rintro w ⟨p0, p1⟩; go_simp; try with_reducible rfl)
                simp only [Act.put, List.setIfInBounds_toArray, List.set_cons_zero, List.set_cons_succ]
                refine take_an 4 77 (v := ?v147) rfl rfl (by kernel_rfl) (by kernel_rfl) (by kernel_rfl) (fun _ _ _ h => h) (by rfl) ?y147 hH ?r147
                case y147 => (rintro w ⟨p0, p1⟩; go_simp; try with_reducible rfl)
                simp only [Act.put, List.setIfInBounds_toArray, List.set_cons_zero, List.set_cons_succ]
                refine take_an 5 78 (v := ?v148) rfl rfl (by kernel_rfl) (by kernel_rfl) (by kernel_rfl) (fun _ _ _ h => h) (by rfl) ?y148 hH ?r148
                case y148 => (rintro w ⟨p0, p1⟩; go_simp; try with_reducible rfl)
                simp only [Act.put, List.setIfInBounds_toArray, List.set_cons_zero, List.set_cons_succ]
                refine take_an 6 79 (v := ?v149) rfl rfl (by kernel_rfl) (by kernel_rfl) (by kernel_rfl) (fun _ _ _ h => h) (by rfl) ?y149 hH ?r149
                case y149 => (rintro w ⟨p0, p1⟩; go_simp; try with_reducible rfl)
                simp only [Act.put, List.setIfInBounds_toArray, List.set_cons_zero, List.set_cons_succ]
                refine take_an 7 80 (v := ?v150) rfl rfl (by kernel_rfl) (by kernel_rfl) (by kernel_rfl) (fun _ _ _ h => h) (by rfl) ?y150 hH ?r150
                case y150 => (rintro w ⟨p0, p1⟩; go_simp; try with_reducible rfl)
                simp only [Act.put, List.setIfInBounds_toArray, List.set_cons_zero, List.set_cons_succ]
                refine take_an 8 81 (v := ?v151) rfl rfl (by kernel_rfl) (by kernel_rfl) (by kernel_rfl) (fun _ _ _ h => h) (by rfl) ?y151 hH ?r151
                case y151 => (rintro w ⟨p0, p1⟩; go_simp; try with_reducible rfl)
                simp only [Act.put, List.setIfInBounds_toArray, List.set_cons_zero, List.set_cons_succ]
                refine take_an 10 83 (v := ?v152) rfl rfl (by kernel_rfl) (by kernel_rfl) (by kernel_rfl) (fun _ _ _ h => h) (by rfl) ?y152 hH ?r152
                case y152 => (rintro w ⟨p0, p1⟩; go_simp; try with_reducible rfl)
                simp only [Act.put, List.setIfInBounds_toArray, List.set_cons_zero, List.set_cons_succ]
                refine take_an 11 84 (v := ?v153) rfl rfl (by kernel_rfl) (by kernel_rfl) (by kernel_rfl) (fun _ _ _ h => h) (by rfl) ?y153 hH ?r153
                case y153 => (rintro w ⟨p0, p1⟩; go_simp; try with_reducible rfl)
                simp only [Act.put, List.setIfInBounds_toArray, List.set_cons_zero, List.set_cons_succ]
                refine take_an 12 85 (v := ?v154) rfl rfl (by kernel_rfl) (by kernel_rfl) (by kernel_rfl) (fun _ _ _ h => h) (by rfl) ?y154 hH ?r154
                case y154 => (rintro w ⟨p0, p1⟩; go_simp; try with_reducible rfl)
                simp only [Act.put, List.setIfInBounds_toArray, List.set_cons_zero, List.set_cons_succ]
                refine take_an 13 86 (v := ?v155) rfl rfl (by kernel_rfl) (by kernel_rfl) (by kernel_rfl) (fun _ _ _ h => h) (by rfl) ?y155 hH ?r155
                case y155 => (rintro w ⟨p0, p1⟩; go_simp; try with_reducible rfl)
                simp only [Act.put, List.setIfInBounds_toArray, List.set_cons_zero, List.set_cons_succ]
                refine take_an 14 87 (v := ?v156) rfl rfl (by kernel_rfl) (by kernel_rfl) (by kernel_rfl) (fun _ _ _ h => h) (by rfl) ?y156 hH ?r156
                case y156 => (rintro w ⟨p0, p1⟩; go_simp; try with_reducible rfl)
                simp only [Act.put, List.setIfInBounds_toArray, List.set_cons_zero, List.set_cons_succ]
                refine wpAnyH_ready (rs := [9]) (by kernel_rfl) (by simp) ?_
                refine AllReadyH.cons rfl (fun K hK => ?_) AllReadyH.nil
                go_simp
                refine (ct _ hH.2).mono ?_
                rintro e u6 ⟨rfl, g6⟩
                clear ct
                go_wp2_with fail
                refine hK.out _ _ (held_1 hH g6) (fun h6 => ?_)
                clear hK K
                try simp only [Act.put, List.setIfInBounds_toArray, List.set_cons_zero, List.set_cons_succ]
                refine take_an 15 88 (v := ?v157) rfl rfl (by kernel_rfl) (by kernel_rfl) (by kernel_rfl) (fun _ _ _ h => h) (by rfl) ?y157 h6 ?r157
                case y157 => (rintro w ⟨p0, p1⟩; go_simp; try with_reducible rfl)
                simp only [Act.put, List.setIfInBounds_toArray, List.set_cons_zero, List.set_cons_succ]
                refine take_an 16 89 (v := ?v158) rfl rfl (by kernel_rfl) (by kernel_rfl) (by kernel_rfl) (fun _ _ _ h => h) (by rfl) ?y158 h6 ?r158
                case y158 => (rintro w ⟨p0, p1⟩; go_simp; try with_reducible rfl)
                simp only [Act.put, List.setIfInBounds_toArray, List.set_cons_zero, List.set_cons_succ]
                refine take_an 17 9 (v := ?v159) rfl rfl (by kernel_rfl) (by kernel_rfl) (by kernel_rfl) (fun _ _ _ h => h) (by rfl) ?y159 h6 ?r159
                case y159 => (rintro w ⟨p0, p1⟩; go_simp; try with_reducible rfl)
                simp only [Act.put, List.setIfInBounds_toArray, List.set_cons_zero, List.set_cons_succ]
                refine wpAnyH_done (by kernel_rfl) ?_ _
                refine NoPanic.normal ?_
                have HE := Lib.hid h6.2
                clear hH h6 g6 hb
                go_wp2_with fail
                go_roundw
                case rel => exact ⟨0 + 1, by omega, by rw [HS.out]; exact congrArg Value.bool hbe, rfl, HE.out⟩
                case measure => simp [intOf]
          · have hv : triAt ys 0 2 = ys.getD 2 0 := at_w HTY.out (j := 1) (by omega)
            have hcor := Lib.hid (E.out.2.1)
            have as' : Hid (agB ys m (1 + 1) = (agB ys m 1 && (ys.getD 2 0 == if corB m 1 then 2 else 0))) := AS
            have ct := fun w2 (g : v2.grownBy w2 none) => itat_any b cb ys 0 2 w2 (I8.out.grown g)
            rw [hv] at ct
            clear hv E AS
            generalize ys.getD 2 0 = y at *
            cases hag : agB ys m 1
            · have HS : Hid (agB ys m (1 + 1) = false) := by unfold Hid; rw [as'.out, hag]; rfl
              clear hcor ct as' hag
              go_wp2_with fail
              refine wp_region_noPanic ?_
              refine wp_region_held_drew (S := fun w' => w'.cell? ⟨u8.heap.size, 0, none⟩ = some (.slice b ys.length cb) ∧ v2.grownBy w' none) (by kernel_rfl) hb (fun hH => ?_)
              refine take_an 0 73 (v := ?v160) rfl rfl (by kernel_rfl) (by kernel_rfl) (by kernel_rfl) (fun _ _ _ h => h) (by rfl) ?y160 hH ?r160
              case y160 => (rintro w ⟨p0, p1⟩; go_simp; try with_reducible rfl)
              simp only [Act.put, List.setIfInBounds_toArray, List.set_cons_zero, List.set_cons_succ]
              refine take_an 1 74 (v := ?v161) rfl rfl (by kernel_rfl) (by kernel_rfl) (by kernel_rfl) (fun _ _ _ h => h) (by rfl) ?y161 hH ?r161
              case y161 => (rintro w ⟨p0, p1⟩; go_simp; try with_reducible rfl)
              simp only [Act.put, List.setIfInBounds_toArray, List.set_cons_zero, List.set_cons_succ]
              refine drop_an 2 75 rfl rfl (by kernel_rfl) (by kernel_rfl) (by kernel_rfl) (fun _ _ _ h => h) (by rfl) hH ?_
              simp only [Act.put, List.setIfInBounds_toArray, List.set_cons_zero, List.set_cons_succ]
              refine drop_an 3 76 rfl rfl (by kernel_rfl) (by kernel_rfl) (by kernel_rfl) (fun _ _ _ h => h) (by rfl) hH ?_
              simp only [Act.put, List.setIfInBounds_toArray, List.set_cons_zero, List.set_cons_succ]
              refine drop_an 4 77 rfl rfl (by kernel_rfl) (by kernel_rfl) (by kernel_rfl) (fun _ _ _ h => h) (by rfl) hH ?_
              simp only [Act.put, List.setIfInBounds_toArray, List.set_cons_zero, List.set_cons_succ]
              refine drop_an 5 78 rfl rfl (by kernel_rfl) (by kernel_rfl) (by kernel_rfl) (fun _ _ _ h => h) (by rfl) hH ?_
              simp only [Act.put, List.setIfInBounds_toArray, List.set_cons_zero, List.set_cons_succ]
              refine drop_an 6 79 rfl rfl (by kernel_rfl) (by kernel_rfl) (by kernel_rfl) (fun _ _ _ h => h) (by rfl) hH ?_
              simp only [Act.put, List.setIfInBounds_toArray, List.set_cons_zero, List.set_cons_succ]
              refine drop_an 7 80 rfl rfl (by kernel_rfl) (by kernel_rfl) (by kernel_rfl) (fun _ _ _ h => h) (by rfl) hH ?_
              simp only [Act.put, List.setIfInBounds_toArray, List.set_cons_zero, List.set_cons_succ]
              refine drop_an 8 81 rfl rfl (by kernel_rfl) (by kernel_rfl) (by kernel_rfl) (fun _ _ _ h => h) (by rfl) hH ?_
              simp only [Act.put, List.setIfInBounds_toArray, List.set_cons_zero, List.set_cons_succ]
              refine drop_an 9 82 rfl rfl (by kernel_rfl) (by kernel_rfl) (by kernel_rfl) (fun _ _ _ h => h) (by rfl) hH ?_
              simp only [Act.put, List.setIfInBounds_toArray, List.set_cons_zero, List.set_cons_succ]
              refine drop_an 10 83 rfl rfl (by kernel_rfl) (by kernel_rfl) (by kernel_rfl) (fun _ _ _ h => h) (by rfl) hH ?_
              simp only [Act.put, List.setIfInBounds_toArray, List.set_cons_zero, List.set_cons_succ]
              refine drop_an 11 84 rfl rfl (by kernel_rfl) (by kernel_rfl) (by kernel_rfl) (fun _ _ _ h => h) (by rfl) hH ?_
              simp only [Act.put, List.setIfInBounds_toArray, List.set_cons_zero, List.set_cons_succ]
              refine drop_an 12 85 rfl rfl (by kernel_rfl) (by kernel_rfl) (by kernel_rfl) (fun _ _ _ h => h) (by rfl) hH ?_
              simp only [Act.put, List.setIfInBounds_toArray, List.set_cons_zero, List.set_cons_succ]
              refine drop_an 13 86 rfl rfl (by kernel_rfl) (by kernel_rfl) (by kernel_rfl) (fun _ _ _ h => h) (by rfl) hH ?_
              simp only [Act.put, List.setIfInBounds_toArray, List.set_cons_zero, List.set_cons_succ]
              refine drop_an 14 87 rfl rfl (by kernel_rfl) (by kernel_rfl) (by kernel_rfl) (fun _ _ _ h => h) (by rfl) hH ?_
              simp only [Act.put, List.setIfInBounds_toArray, List.set_cons_zero, List.set_cons_succ]
              refine drop_an 15 88 rfl rfl (by kernel_rfl) (by kernel_rfl) (by kernel_rfl) (fun _ _ _ h => h) (by rfl) hH ?_
              simp only [Act.put, List.setIfInBounds_toArray, List.set_cons_zero, List.set_cons_succ]
              refine take_an 16 89 (v := ?v162) rfl rfl (by kernel_rfl) (by kernel_rfl) (by kernel_rfl) (fun _ _ _ h => h) (by rfl) ?y162 hH ?r162
              case y162 => (rintro w ⟨p0, p1⟩; go_simp; try with_reducible rfl)
              simp only [Act.put, List.setIfInBounds_toArray, List.set_cons_zero, List.set_cons_succ]
              refine take_an 17 9 (v := ?v163) rfl rfl (by kernel_rfl) (by kernel_rfl) (by kernel_rfl) (fun _ _ _ h => h) (by rfl) ?y163 hH ?r163
              case y163 => (rintro w ⟨p0, p1⟩; go_simp; try with_reducible rfl)
              simp only [Act.put, List.setIfInBounds_toArray, List.set_cons_zero, List.set_cons_succ]
              refine wpAnyH_done (by kernel_rfl) ?_ _
              refine NoPanic.normal ?_
              have HE := Lib.hid hH.2
              clear hH hb
              go_wp2_with fail
              go_roundw
              case rel => exact ⟨1 + 1, by omega, by rw [HS.out], rfl, HE.out⟩
              case measure => simp [intOf]
            · cases g3 : corB m 1
              · have q1 : ((m : Int) / 2) % 2 = 0 := by have := hcor.out; rw [g3] at this; have := beq_eq_false_iff_ne.1 this; omega
                have q2 : ((m : Int) / 2).tmod 2 = 0 := by rw [Int.tmod_eq_emod_of_nonneg (by omega)]; exact q1
                have HS : Hid (agB ys m (1 + 1) = (y == 0)) := by unfold Hid; rw [as'.out, hag, g3]; rfl
                clear hcor g3 as' hag
                obtain ⟨be, hbe⟩ : ∃ be, (y == 0) = be := ⟨_, rfl⟩
                rw [hbe] at HS
                go_wp2_with fail
                refine wp_region_noPanic ?_
                refine wp_region_held_drew (S := fun w' => w'.cell? ⟨u8.heap.size, 0, none⟩ = some (.slice b ys.length cb) ∧ v2.grownBy w' none) (by kernel_rfl) hb (fun hH => ?_)
                refine take_an 0 73 (v := ?v164) rfl rfl (by kernel_rfl) (by kernel_rfl) (by kernel_rfl) (fun _ _ _ h => h) (by rfl) ?y164 hH ?r164
                case y164 => (rintro w ⟨p0, p1⟩; go_simp; try with_reducible rfl)
                simp only [Act.put, List.setIfInBounds_toArray, List.set_cons_zero, List.set_cons_succ]
                refine take_an 1 74 (v := ?v165) rfl rfl (by kernel_rfl) (by kernel_rfl) (by kernel_rfl) (fun _ _ _ h => h) (by rfl) ?y165 hH ?r165
                case y165 => (rintro w ⟨p0, p1⟩; go_simp; try with_reducible rfl)
                simp only [Act.put, List.setIfInBounds_toArray, List.set_cons_zero, List.set_cons_succ]
                refine take_an 2 75 (v := ?v166) rfl rfl (by kernel_rfl) (by kernel_rfl) (by kernel_rfl) (fun _ _ _ h => h) (by rfl) ?y166 hH ?r166
                case y166 => (rintro w ⟨p0, p1⟩; go_simp; try with_reducible rfl)
                simp only [Act.put, List.setIfInBounds_toArray, List.set_cons_zero, List.set_cons_succ]
                refine take_an 3 76 (v := ?v167) rfl rfl (by kernel_rfl) (by kernel_rfl) (by kernel_rfl) (fun _ _ _ h => h) (by rfl) ?y167 hH ?r167
                case y167 => (rintro w ⟨p0, p1⟩; go_simp; try with_reducible rfl)
                simp only [Act.put, List.setIfInBounds_toArray, List.set_cons_zero, List.set_cons_succ]
                refine take_an 4 77 (v := ?v168) rfl rfl (by kernel_rfl) (by kernel_rfl) (by kernel_rfl) (fun _ _ _ h => h) (by rfl) ?y168 hH ?r168
                case y168 => (rintro w ⟨p0, p1⟩; go_simp; try with_reducible rfl)
                simp only [Act.put, List.setIfInBounds_toArray, List.set_cons_zero, List.set_cons_succ]
                refine take_an 5 78 (v := ?v169) rfl rfl (by kernel_rfl) (by kernel_rfl) (by kernel_rfl) (fun _ _ _ h => h) (by rfl) ?y169 hH ?r169
                case y169 => (rintro w ⟨p0, p1⟩; go_simp; try with_reducible rfl)
                simp only [Act.put, List.setIfInBounds_toArray, List.set_cons_zero, List.set_cons_succ]
                refine take_an 6 79 (v := ?v170) rfl rfl (by kernel_rfl) (by kernel_rfl) (by kernel_rfl) (fun _ _ _ h => h) (by rfl) ?y170 hH ?r170
                case y170 => (rintro w ⟨p0, p1⟩; go_simp; try with_reducible rfl)
                simp only [Act.put, List.setIfInBounds_toArray, List.set_cons_zero, List.set_cons_succ]
                refine take_an 7 80 (v := ?v171) rfl rfl (by kernel_rfl) (by kernel_rfl) (by kernel_rfl) (fun _ _ _ h => h) (by rfl) ?y171 hH ?r171
                case y171 => (rintro w ⟨p0, p1⟩; go_simp; try with_reducible rfl)
                simp only [Act.put, List.setIfInBounds_toArray, List.set_cons_zero, List.set_cons_succ]
                refine take_an 8 81 (v := ?v172) rfl rfl (by kernel_rfl) (by kernel_rfl) (by kernel_rfl) (fun _ _ _ h => h) (by rfl) ?y172 hH ?r172
                case y172 => (rintro w ⟨p0, p1⟩; go_simp; try with_reducible rfl)
                simp only [Act.put, List.setIfInBounds_toArray, List.set_cons_zero, List.set_cons_succ]
                refine take_an 10 83 (v := ?v173) rfl rfl (by kernel_rfl) (by kernel_rfl) (by kernel_rfl) (fun _ _ _ h => h) (by rfl) ?y173 hH ?r173
                case y173 => (rintro w ⟨p0, p1⟩; go_simp; try with_reducible rfl)
                simp only [Act.put, List.setIfInBounds_toArray, List.set_cons_zero, List.set_cons_succ]
                refine take_an 11 84 (v := ?v174) rfl rfl (by kernel_rfl) (by kernel_rfl) (by kernel_rfl) (fun _ _ _ h => h) (by rfl) ?y174 hH ?r174
                case y174 => (rintro w ⟨p0, p1⟩; go_simp; try with_reducible rfl)
                simp only [Act.put, List.setIfInBounds_toArray, List.set_cons_zero, List.set_cons_succ]
                refine take_an 12 85 (v := ?v175) rfl rfl (by kernel_rfl) (by kernel_rfl) (by kernel_rfl) (fun _ _ _ h => h) (by rfl) ?y175 hH ?r175
                case y175 => (rintro w ⟨p0, p1⟩; go_simp; try with_reducible rfl)
                simp only [Act.put, List.setIfInBounds_toArray, List.set_cons_zero, List.set_cons_succ]
                refine take_an 13 86 (v := ?v176) rfl rfl (by kernel_rfl) (by kernel_rfl) (by kernel_rfl) (fun _ _ _ h => h) (by rfl) ?y176 hH ?r176
                case y176 => (rintro w ⟨p0, p1⟩; go_simp; try with_reducible rfl)
                simp only [Act.put, List.setIfInBounds_toArray, List.set_cons_zero, List.set_cons_succ]
                refine take_an 14 87 (v := ?v177) rfl rfl (by kernel_rfl) (by kernel_rfl) (by kernel_rfl) (fun _ _ _ h => h) (by rfl) ?y177 hH ?r177
                case y177 => (rintro w ⟨p0, p1⟩; go_simp; try with_reducible rfl)
                simp only [Act.put, List.setIfInBounds_toArray, List.set_cons_zero, List.set_cons_succ]
                refine wpAnyH_ready (rs := [9]) (by kernel_rfl) (by simp) ?_
                refine AllReadyH.cons rfl (fun K hK => ?_) AllReadyH.nil
                go_simp
                refine (ct _ hH.2).mono ?_
                rintro e u6 ⟨rfl, g6⟩
                clear ct
                go_wp2_with fail
                refine hK.out _ _ (held_1 hH g6) (fun h6 => ?_)
                clear hK K
                try simp only [Act.put, List.setIfInBounds_toArray, List.set_cons_zero, List.set_cons_succ]
                refine take_an 15 88 (v := ?v178) rfl rfl (by kernel_rfl) (by kernel_rfl) (by kernel_rfl) (fun _ _ _ h => h) (by rfl) ?y178 h6 ?r178
                case y178 => (rintro w ⟨p0, p1⟩; go_simp; try with_reducible rfl)
                simp only [Act.put, List.setIfInBounds_toArray, List.set_cons_zero, List.set_cons_succ]
                refine take_an 16 89 (v := ?v179) rfl rfl (by kernel_rfl) (by kernel_rfl) (by kernel_rfl) (fun _ _ _ h => h) (by rfl) ?y179 h6 ?r179
                case y179 => (rintro w ⟨p0, p1⟩; go_simp; try with_reducible rfl)
                simp only [Act.put, List.setIfInBounds_toArray, List.set_cons_zero, List.set_cons_succ]
                refine take_an 17 9 (v := ?v180) rfl rfl (by kernel_rfl) (by kernel_rfl) (by kernel_rfl) (fun _ _ _ h => h) (by rfl) ?y180 h6 ?r180
                case y180 => (rintro w ⟨p0, p1⟩; go_simp; try with_reducible rfl)
                simp only [Act.put, List.setIfInBounds_toArray, List.set_cons_zero, List.set_cons_succ]
                refine wpAnyH_done (by kernel_rfl) ?_ _
                refine NoPanic.normal ?_
                have HE := Lib.hid h6.2
                clear hH h6 g6 hb
                go_wp2_with fail
                go_roundw
                case rel => exact ⟨1 + 1, by omega, by rw [HS.out]; exact congrArg Value.bool hbe, rfl, HE.out⟩
                case measure => simp [intOf]
              · have q1 : ((m : Int) / 2) % 2 = 1 := by have := hcor.out; rw [g3] at this; exact beq_iff_eq.1 this
                have q2 : ((m : Int) / 2).tmod 2 = 1 := by rw [Int.tmod_eq_emod_of_nonneg (by omega)]; exact q1
                have HS : Hid (agB ys m (1 + 1) = (y == 2)) := by unfold Hid; rw [as'.out, hag, g3]; rfl
                clear hcor g3 as' hag
                obtain ⟨be, hbe⟩ : ∃ be, (y == 2) = be := ⟨_, rfl⟩
                rw [hbe] at HS
                go_wp2_with fail
                refine wp_region_noPanic ?_
                refine wp_region_held_drew (S := fun w' => w'.cell? ⟨u8.heap.size, 0, none⟩ = some (.slice b ys.length cb) ∧ v2.grownBy w' none) (by kernel_rfl) hb (fun hH => ?_)
                refine take_an 0 73 (v := ?v181) rfl rfl (by kernel_rfl) (by kernel_rfl) (by kernel_rfl) (fun _ _ _ h => h) (by rfl) ?y181 hH ?r181
                case y181 => (rintro w ⟨p0, p1⟩; go_simp; try with_reducible rfl)
                simp only [Act.put, List.setIfInBounds_toArray, List.set_cons_zero, List.set_cons_succ]
                refine take_an 1 74 (v := ?v182) rfl rfl (by kernel_rfl) (by kernel_rfl) (by kernel_rfl) (fun _ _ _ h => h) (by rfl) ?y182 hH ?r182
                case y182 => (rintro w ⟨p0, p1⟩; go_simp; try with_reducible rfl)
                simp only [Act.put, List.setIfInBounds_toArray, List.set_cons_zero, List.set_cons_succ]
                refine take_an 2 75 (v := ?v183) rfl rfl (by kernel_rfl) (by kernel_rfl) (by kernel_rfl) (fun _ _ _ h => h) (by rfl) ?y183 hH ?r183
                case y183 => (rintro w ⟨p0, p1⟩; go_simp; try with_reducible rfl)
                simp only [Act.put, List.setIfInBounds_toArray, List.set_cons_zero, List.set_cons_succ]
                refine take_an 3 76 (v := ?v184) rfl rfl (by kernel_rfl) (by kernel_rfl) (by kernel_rfl) (fun _ _ _ h => h) (by rfl) ?y184 hH ?r184
                case y184 => (rintro w ⟨p0, p1⟩; go_simp; try with_reducible rfl)
                simp only [Act.put, List.setIfInBounds_toArray, List.set_cons_zero, List.set_cons_succ]
                refine take_an 4 77 (v := ?v185) rfl rfl (by kernel_rfl) (by kernel_rfl) (by kernel_rfl) (fun _ _ _ h => h) (by rfl) ?y185 hH ?r185
                case y185 => (rintro w ⟨p0, p1⟩; go_simp; try with_reducible rfl)
                simp only [Act.put, List.setIfInBounds_toArray, List.set_cons_zero, List.set_cons_succ]
                refine take_an 5 78 (v := ?v186) rfl rfl (by kernel_rfl) (by kernel_rfl) (by kernel_rfl) (fun _ _ _ h => h) (by rfl) ?y186 hH ?r186
                case y186 => (rintro w ⟨p0, p1⟩; go_simp; try with_reducible rfl)
                simp only [Act.put, List.setIfInBounds_toArray, List.set_cons_zero, List.set_cons_succ]
                refine take_an 6 79 (v := ?v187) rfl rfl (by kernel_rfl) (by kernel_rfl) (by kernel_rfl) (fun _ _ _ h => h) (by rfl) ?y187 hH ?r187
                case y187 => (rintro w ⟨p0, p1⟩; go_simp; try with_reducible rfl)
                simp only [Act.put, List.setIfInBounds_toArray, List.set_cons_zero, List.set_cons_succ]
                refine take_an 7 80 (v := ?v188) rfl rfl (by kernel_rfl) (by kernel_rfl) (by kernel_rfl) (fun _ _ _ h => h) (by rfl) ?y188 hH ?r188
                case y188 => (rintro w ⟨p0, p1⟩; go_simp; try with_reducible rfl)
                simp only [Act.put, List.setIfInBounds_toArray, List.set_cons_zero, List.set_cons_succ]
                refine take_an 8 81 (v := ?v189) rfl rfl (by kernel_rfl) (by kernel_rfl) (by kernel_rfl) (fun _ _ _ h => h) (by rfl) ?y189 hH ?r189
                case y189 => (rintro w ⟨p0, p1⟩; go_simp; try with_reducible rfl)
                simp only [Act.put, List.setIfInBounds_toArray, List.set_cons_zero, List.set_cons_succ]
                refine take_an 10 83 (v := ?v190) rfl rfl (by kernel_rfl) (by kernel_rfl) (by kernel_rfl) (fun _ _ _ h => h) (by rfl) ?y190 hH ?r190
                case y190 => (rintro w ⟨p0, p1⟩; go_simp; try with_reducible rfl)
                simp only [Act.put, List.setIfInBounds_toArray, List.set_cons_zero, List.set_cons_succ]
                refine take_an 11 84 (v := ?v191) rfl rfl (by kernel_rfl) (by kernel_rfl) (by kernel_rfl) (fun _ _ _ h => h) (by rfl) ?y191 hH ?r191
                case y191 => (rintro w ⟨p0, p1⟩; go_simp; try with_reducible rfl)
                simp only [Act.put, List.setIfInBounds_toArray, List.set_cons_zero, List.set_cons_succ]
                refine take_an 12 85 (v := ?v192) rfl rfl (by kernel_rfl) (by kernel_rfl) (by kernel_rfl) (fun _ _ _ h => h) (by rfl) ?y192 hH ?r192
                case y192 => (rintro w ⟨p0, p1⟩; go_simp; try with_reducible rfl)
                simp only [Act.put, List.setIfInBounds_toArray, List.set_cons_zero, List.set_cons_succ]
                refine take_an 13 86 (v := ?v193) rfl rfl (by kernel_rfl) (by kernel_rfl) (by kernel_rfl) (fun _ _ _ h => h) (by rfl) ?y193 hH ?r193
                case y193 => (rintro w ⟨p0, p1⟩; go_simp; try with_reducible rfl)
                simp only [Act.put, List.setIfInBounds_toArray, List.set_cons_zero, List.set_cons_succ]
                refine take_an 14 87 (v := ?v194) rfl rfl (by kernel_rfl) (by kernel_rfl) (by kernel_rfl) (fun _ _ _ h => h) (by rfl) ?y194 hH ?r194
                case y194 => (rintro w ⟨p0, p1⟩; go_simp; try with_reducible rfl)
                simp only [Act.put, List.setIfInBounds_toArray, List.set_cons_zero, List.set_cons_succ]
                refine wpAnyH_ready (rs := [9]) (by kernel_rfl) (by simp) ?_
                refine AllReadyH.cons rfl (fun K hK => ?_) AllReadyH.nil
                go_simp
                refine (ct _ hH.2).mono ?_
                rintro e u6 ⟨rfl, g6⟩
                clear ct
                go_wp2_with fail
                refine hK.out _ _ (held_1 hH g6) (fun h6 => ?_)
                clear hK K
                try simp only [Act.put, List.setIfInBounds_toArray, List.set_cons_zero, List.set_cons_succ]
                refine take_an 15 88 (v := ?v195) rfl rfl (by kernel_rfl) (by kernel_rfl) (by kernel_rfl) (fun _ _ _ h => h) (by rfl) ?y195 h6 ?r195
                case y195 => (rintro w ⟨p0, p1⟩; go_simp; try with_reducible rfl)
                simp only [Act.put, List.setIfInBounds_toArray, List.set_cons_zero, List.set_cons_succ]
                refine take_an 16 89 (v := ?v196) rfl rfl (by kernel_rfl) (by kernel_rfl) (by kernel_rfl) (fun _ _ _ h => h) (by rfl) ?y196 h6 ?r196
                case y196 => (rintro w ⟨p0, p1⟩; go_simp; try with_reducible rfl)
                simp only [Act.put, List.setIfInBounds_toArray, List.set_cons_zero, List.set_cons_succ]
                refine take_an 17 9 (v := ?v197) rfl rfl (by kernel_rfl) (by kernel_rfl) (by kernel_rfl) (fun _ _ _ h => h) (by rfl) ?y197 h6 ?r197
                case y197 => (rintro w ⟨p0, p1⟩; go_simp; try with_reducible rfl)
                simp only [Act.put, List.setIfInBounds_toArray, List.set_cons_zero, List.set_cons_succ]
                refine wpAnyH_done (by kernel_rfl) ?_ _
                refine NoPanic.normal ?_
                have HE := Lib.hid h6.2
                clear hH h6 g6 hb
                go_wp2_with fail
                go_roundw
                case rel => exact ⟨1 + 1, by omega, by rw [HS.out]; exact congrArg Value.bool hbe, rfl, HE.out⟩
                case measure => simp [intOf]
          · have hv : triAt ys 2 0 = ys.getD 6 0 := at_w HTY.out (j := 2) (by omega)
            have hcor := Lib.hid (E.out.2.2.1)
            have as' : Hid (agB ys m (2 + 1) = (agB ys m 2 && (ys.getD 6 0 == if corB m 2 then 2 else 0))) := AS
            have ct := fun w2 (g : v2.grownBy w2 none) => itat_any b cb ys 2 0 w2 (I8.out.grown g)
            rw [hv] at ct
            clear hv E AS
            generalize ys.getD 6 0 = y at *
            cases hag : agB ys m 2
            · have HS : Hid (agB ys m (2 + 1) = false) := by unfold Hid; rw [as'.out, hag]; rfl
              clear hcor ct as' hag
              go_wp2_with fail
              refine wp_region_noPanic ?_
              refine wp_region_held_drew (S := fun w' => w'.cell? ⟨u8.heap.size, 0, none⟩ = some (.slice b ys.length cb) ∧ v2.grownBy w' none) (by kernel_rfl) hb (fun hH => ?_)
              refine take_an 0 73 (v := ?v198) rfl rfl (by kernel_rfl) (by kernel_rfl) (by kernel_rfl) (fun _ _ _ h => h) (by rfl) ?y198 hH ?r198
              case y198 => (rintro w ⟨p0, p1⟩; go_simp; try with_reducible rfl)
              simp only [Act.put, List.setIfInBounds_toArray, List.set_cons_zero, List.set_cons_succ]
              refine take_an 1 74 (v := ?v199) rfl rfl (by kernel_rfl) (by kernel_rfl) (by kernel_rfl) (fun _ _ _ h => h) (by rfl) ?y199 hH ?r199
              case y199 => (rintro w ⟨p0, p1⟩; go_simp; try with_reducible rfl)
              simp only [Act.put, List.setIfInBounds_toArray, List.set_cons_zero, List.set_cons_succ]
              refine drop_an 2 75 rfl rfl (by kernel_rfl) (by kernel_rfl) (by kernel_rfl) (fun _ _ _ h => h) (by rfl) hH ?_
              simp only [Act.put, List.setIfInBounds_toArray, List.set_cons_zero, List.set_cons_succ]
              refine drop_an 3 76 rfl rfl (by kernel_rfl) (by kernel_rfl) (by kernel_rfl) (fun _ _ _ h => h) (by rfl) hH ?_
              simp only [Act.put, List.setIfInBounds_toArray, List.set_cons_zero, List.set_cons_succ]
              refine drop_an 4 77 rfl rfl (by kernel_rfl) (by kernel_rfl) (by kernel_rfl) (fun _ _ _ h => h) (by rfl) hH ?_
              simp only [Act.put, List.setIfInBounds_toArray, List.set_cons_zero, List.set_cons_succ]
              refine drop_an 5 78 rfl rfl (by kernel_rfl) (by kernel_rfl) (by kernel_rfl) (fun _ _ _ h => h) (by rfl) hH ?_
              simp only [Act.put, List.setIfInBounds_toArray, List.set_cons_zero, List.set_cons_succ]
              refine drop_an 6 79 rfl rfl (by kernel_rfl) (by kernel_rfl) (by kernel_rfl) (fun _ _ _ h => h) (by rfl) hH ?_
              simp only [Act.put, List.setIfInBounds_toArray, List.set_cons_zero, List.set_cons_succ]
              refine drop_an 7 80 rfl rfl (by kernel_rfl) (by kernel_rfl) (by kernel_rfl) (fun _ _ _ h => h) (by rfl) hH ?_
              simp only [Act.put, List.setIfInBounds_toArray, List.set_cons_zero, List.set_cons_succ]
              refine drop_an 8 81 rfl rfl (by kernel_rfl) (by kernel_rfl) (by kernel_rfl) (fun _ _ _ h => h) (by rfl) hH ?_
              simp only [Act.put, List.setIfInBounds_toArray, List.set_cons_zero, List.set_cons_succ]
              refine drop_an 9 82 rfl rfl (by kernel_rfl) (by kernel_rfl) (by kernel_rfl) (fun _ _ _ h => h) (by rfl) hH ?_
              simp only [Act.put, List.setIfInBounds_toArray, List.set_cons_zero, List.set_cons_succ]
              refine drop_an 10 83 rfl rfl (by kernel_rfl) (by kernel_rfl) (by kernel_rfl) (fun _ _ _ h => h) (by rfl) hH ?_
              simp only [Act.put, List.setIfInBounds_toArray, List.set_cons_zero, List.set_cons_succ]
              refine drop_an 11 84 rfl rfl (by kernel_rfl) (by kernel_rfl) (by kernel_rfl) (fun _ _ _ h => h) (by rfl) hH ?_
              simp only [Act.put, List.setIfInBounds_toArray, List.set_cons_zero, List.set_cons_succ]
              refine drop_an 12 85 rfl rfl (by kernel_rfl) (by kernel_rfl) (by kernel_rfl) (fun _ _ _ h => h) (by rfl) hH ?_
              simp only [Act.put, List.setIfInBounds_toArray, List.set_cons_zero, List.set_cons_succ]
              refine drop_an 13 86 rfl rfl (by kernel_rfl) (by kernel_rfl) (by kernel_rfl) (fun _ _ _ h => h) (by rfl) hH ?_
              simp only [Act.put, List.setIfInBounds_toArray, List.set_cons_zero, List.set_cons_succ]
              refine drop_an 14 87 rfl rfl (by kernel_rfl) (by kernel_rfl) (by kernel_rfl) (fun _ _ _ h => h) (by rfl) hH ?_
              simp only [Act.put, List.setIfInBounds_toArray, List.set_cons_zero, List.set_cons_succ]
              refine drop_an 15 88 rfl rfl (by kernel_rfl) (by kernel_rfl) (by kernel_rfl) (fun _ _ _ h => h) (by rfl) hH ?_
              simp only [Act.put, List.setIfInBounds_toArray, List.set_cons_zero, List.set_cons_succ]
              refine take_an 16 89 (v := ?v200) rfl rfl (by kernel_rfl) (by kernel_rfl) (by kernel_rfl) (fun _ _ _ h => h) (by rfl) ?y200 hH ?r200
              case y200 => (rintro w ⟨p0, p1⟩; go_simp; try with_reducible rfl)
              simp only [Act.put, List.setIfInBounds_toArray, List.set_cons_zero, List.set_cons_succ]
              refine take_an 17 9 (v := ?v201) rfl rfl (by kernel_rfl) (by kernel_rfl) (by kernel_rfl) (fun _ _ _ h => h) (by rfl) ?y201 hH ?r201
              case y201 => (rintro w ⟨p0, p1⟩; go_simp; try with_reducible rfl)
              simp only [Act.put, List.setIfInBounds_toArray, List.set_cons_zero, List.set_cons_succ]
              refine wpAnyH_done (by kernel_rfl) ?_ _
              refine NoPanic.normal ?_
              have HE := Lib.hid hH.2
              clear hH hb
              go_wp2_with fail
              go_roundw
              case rel => exact ⟨2 + 1, by omega, by rw [HS.out], rfl, HE.out⟩
              case measure => simp [intOf]
            · cases g3 : corB m 2
              · have q1 : ((m : Int) / 4) % 2 = 0 := by have := hcor.out; rw [g3] at this; have := beq_eq_false_iff_ne.1 this; omega
                have q2 : ((m : Int) / 4).tmod 2 = 0 := by rw [Int.tmod_eq_emod_of_nonneg (by omega)]; exact q1
                have HS : Hid (agB ys m (2 + 1) = (y == 0)) := by unfold Hid; rw [as'.out, hag, g3]; rfl
                clear hcor g3 as' hag
                obtain ⟨be, hbe⟩ : ∃ be, (y == 0) = be := ⟨_, rfl⟩
                rw [hbe] at HS
                go_wp2_with fail
                refine wp_region_noPanic ?_
                refine wp_region_held_drew (S := fun w' => w'.cell? ⟨u8.heap.size, 0, none⟩ = some (.slice b ys.length cb) ∧ v2.grownBy w' none) (by kernel_rfl) hb (fun hH => ?_)
                refine take_an 0 73 (v := ?v202) rfl rfl (by kernel_rfl) (by kernel_rfl) (by kernel_rfl) (fun _ _ _ h => h) (by rfl) ?y202 hH ?r202
                case y202 => (rintro w ⟨p0, p1⟩; go_simp; try with_reducible rfl)
                simp only [Act.put, List.setIfInBounds_toArray, List.set_cons_zero, List.set_cons_succ]
                refine take_an 1 74 (v := ?v203) rfl rfl (by kernel_rfl) (by kernel_rfl) (by kernel_rfl) (fun _ _ _ h => h) (by rfl) ?y203 hH ?r203
                case y203 => (rintro w ⟨p0, p1⟩; go_simp; try with_reducible rfl)
                simp only [Act.put, List.setIfInBounds_toArray, List.set_cons_zero, List.set_cons_succ]
                refine take_an 2 75 (v := ?v204) rfl rfl (by kernel_rfl) (by kernel_rfl) (by kernel_rfl) (fun _ _ _ h => h) (by rfl) ?y204 hH ?r204
                case y204 => (rintro w ⟨p0, p1⟩; go_simp; try with_reducible rfl)
                simp only [Act.put, List.setIfInBounds_toArray, List.set_cons_zero, List.set_cons_succ]
                refine take_an 3 76 (v := ?v205) rfl rfl (by kernel_rfl) (by kernel_rfl) (by kernel_rfl) (fun _ _ _ h => h) (by rfl) ?y205 hH ?r205
                case y205 => (rintro w ⟨p0, p1⟩; go_simp; try with_reducible rfl)
                simp only [Act.put, List.setIfInBounds_toArray, List.set_cons_zero, List.set_cons_succ]
                refine take_an 4 77 (v := ?v206) rfl rfl (by kernel_rfl) (by kernel_rfl) (by kernel_rfl) (fun _ _ _ h => h) (by rfl) ?y206 hH ?r206
                case y206 => (rintro w ⟨p0, p1⟩; go_simp; try with_reducible rfl)
                simp only [Act.put, List.setIfInBounds_toArray, List.set_cons_zero, List.set_cons_succ]
                refine take_an 5 78 (v := ?v207) rfl rfl (by kernel_rfl) (by kernel_rfl) (by kernel_rfl) (fun _ _ _ h => h) (by rfl) ?y207 hH ?r207
                case y207 => (rintro w ⟨p0, p1⟩; go_simp; try with_reducible rfl)
                simp only [Act.put, List.setIfInBounds_toArray, List.set_cons_zero, List.set_cons_succ]
                refine take_an 6 79 (v := ?v208) rfl rfl (by kernel_rfl) (by kernel_rfl) (by kernel_rfl) (fun _ _ _ h => h) (by rfl) ?y208 hH ?r208
                case y208 => (rintro w ⟨p0, p1⟩; go_simp; try with_reducible rfl)
                simp only [Act.put, List.setIfInBounds_toArray, List.set_cons_zero, List.set_cons_succ]
                refine take_an 7 80 (v := ?v209) rfl rfl (by kernel_rfl) (by kernel_rfl) (by kernel_rfl) (fun _ _ _ h => h) (by rfl) ?y209 hH ?r209
                case y209 => (rintro w ⟨p0, p1⟩; go_simp; try with_reducible rfl)
                simp only [Act.put, List.setIfInBounds_toArray, List.set_cons_zero, List.set_cons_succ]
                refine take_an 8 81 (v := ?v210) rfl rfl (by kernel_rfl) (by kernel_rfl) (by kernel_rfl) (fun _ _ _ h => h) (by rfl) ?y210 hH ?r210
                case y210 => (rintro w ⟨p0, p1⟩; go_simp; try with_reducible rfl)
                simp only [Act.put, List.setIfInBounds_toArray, List.set_cons_zero, List.set_cons_succ]
                refine take_an 10 83 (v := ?v211) rfl rfl (by kernel_rfl) (by kernel_rfl) (by kernel_rfl) (fun _ _ _ h => h) (by rfl) ?y211 hH ?r211
                case y211 => (rintro w ⟨p0, p1⟩; go_simp; try with_reducible rfl)
                simp only [Act.put, List.setIfInBounds_toArray, List.set_cons_zero, List.set_cons_succ]
                refine take_an 11 84 (v := ?v212) rfl rfl (by kernel_rfl) (by kernel_rfl) (by kernel_rfl) (fun _ _ _ h => h) (by rfl) ?y212 hH ?r212
                case y212 => (rintro w ⟨p0, p1⟩; go_simp; try with_reducible rfl)
                simp only [Act.put, List.setIfInBounds_toArray, List.set_cons_zero, List.set_cons_succ]
                refine take_an 12 85 (v := ?v213) rfl rfl (by kernel_rfl) (by kernel_rfl) (by kernel_rfl) (fun _ _ _ h => h) (by rfl) ?y213 hH ?r213
                case y213 => (rintro w ⟨p0, p1⟩; go_simp; try with_reducible rfl)
                simp only [Act.put, List.setIfInBounds_toArray, List.set_cons_zero, List.set_cons_succ]
                refine take_an 13 86 (v := ?v214) rfl rfl (by kernel_rfl) (by kernel_rfl) (by kernel_rfl) (fun _ _ _ h => h) (by rfl) ?y214 hH ?r214
                case y214 => (rintro w ⟨p0, p1⟩; go_simp; try with_reducible rfl)
                simp only [Act.put, List.setIfInBounds_toArray, List.set_cons_zero, List.set_cons_succ]
                refine take_an 14 87 (v := ?v215) rfl rfl (by kernel_rfl) (by kernel_rfl) (by kernel_rfl) (fun _ _ _ h => h) (by rfl) ?y215 hH ?r215
                case y215 => (rintro w ⟨p0, p1⟩; go_simp; try with_reducible rfl)
                simp only [Act.put, List.setIfInBounds_toArray, List.set_cons_zero, List.set_cons_succ]
                refine wpAnyH_ready (rs := [9]) (by kernel_rfl) (by simp) ?_
                refine AllReadyH.cons rfl (fun K hK => ?_) AllReadyH.nil
                go_simp
                refine (ct _ hH.2).mono ?_
                rintro e u6 ⟨rfl, g6⟩
                clear ct
                go_wp2_with fail
                refine hK.out _ _ (held_1 hH g6) (fun h6 => ?_)
                clear hK K
                try simp only [Act.put, List.setIfInBounds_toArray, List.set_cons_zero, List.set_cons_succ]
                refine take_an 15 88 (v := ?v216) rfl rfl (by kernel_rfl) (by kernel_rfl) (by kernel_rfl) (fun _ _ _ h => h) (by rfl) ?y216 h6 ?r216
                case y216 => (rintro w ⟨p0, p1⟩; go_simp; try with_reducible rfl)
                simp only [Act.put, List.setIfInBounds_toArray, List.set_cons_zero, List.set_cons_succ]
                refine take_an 16 89 (v := ?v217) rfl rfl (by kernel_rfl) (by kernel_rfl) (by kernel_rfl) (fun _ _ _ h => h) (by rfl) ?y217 h6 ?r217
                case y217 => (rintro w ⟨p0, p1⟩; go_simp; try with_reducible rfl)
                simp only [Act.put, List.setIfInBounds_toArray, List.set_cons_zero, List.set_cons_succ]
                refine take_an 17 9 (v := ?v218) rfl rfl (by kernel_rfl) (by kernel_rfl) (by kernel_rfl) (fun _ _ _ h => h) (by rfl) ?y218 h6 ?r218
                case y218 => (rintro w ⟨p0, p1⟩; go_simp; try with_reducible rfl)
                simp only [Act.put, List.setIfInBounds_toArray, List.set_cons_zero, List.set_cons_succ]
                refine wpAnyH_done (by kernel_rfl) ?_ _
                refine NoPanic.normal ?_
                have HE := Lib.hid h6.2
                clear hH h6 g6 hb
                go_wp2_with fail
                go_roundw
                case rel => exact ⟨2 + 1, by omega, by rw [HS.out]; exact congrArg Value.bool hbe, rfl, HE.out⟩
                case measure => simp [intOf]
              · have q1 : ((m : Int) / 4) % 2 = 1 := by have := hcor.out; rw [g3] at this; exact beq_iff_eq.1 this
                have q2 : ((m : Int) / 4).tmod 2 = 1 := by rw [Int.tmod_eq_emod_of_nonneg (by omega)]; exact q1
                have HS : Hid (agB ys m (2 + 1) = (y == 2)) := by unfold Hid; rw [as'.out, hag, g3]; rfl
                clear hcor g3 as' hag
                obtain ⟨be, hbe⟩ : ∃ be, (y == 2) = be := ⟨_, rfl⟩
                rw [hbe] at HS
                go_wp2_with fail
                refine wp_region_noPanic ?_
                refine wp_region_held_drew (S := fun w' => w'.cell? ⟨u8.heap.size, 0, none⟩ = some (.slice b ys.length cb) ∧ v2.grownBy w' none) (by kernel_rfl) hb (fun hH => ?_)
                refine take_an 0 73 (v := ?v219) rfl rfl (by kernel_rfl) (by kernel_rfl) (by kernel_rfl) (fun _ _ _ h => h) (by rfl) ?y219 hH ?r219
                case y219 => (rintro w ⟨p0, p1⟩; go_simp; try with_reducible rfl)
                simp only [Act.put, List.setIfInBounds_toArray, List.set_cons_zero, List.set_cons_succ]
                refine take_an 1 74 (v := ?v220) rfl rfl (by kernel_rfl) (by kernel_rfl) (by kernel_rfl) (fun _ _ _ h => h) (by rfl) ?y220 hH ?r220
                case y220 => (rintro w ⟨p0, p1⟩; go_simp; try with_reducible rfl)
                simp only [Act.put, List.setIfInBounds_toArray, List.set_cons_zero, List.set_cons_succ]
                refine take_an 2 75 (v := ?v221) rfl rfl (by kernel_rfl) (by kernel_rfl) (by kernel_rfl) (fun _ _ _ h => h) (by rfl) ?y221 hH ?r221
                case y221 => (rintro w ⟨p0, p1⟩; go_simp; try with_reducible rfl)
                simp only [Act.put, List.setIfInBounds_toArray, List.set_cons_zero, List.set_cons_succ]
                refine take_an 3 76 (v := ?v222) rfl rfl (by kernel_rfl) (by kernel_rfl) (by kernel_rfl) (fun _ _ _ h => h) (by rfl) ?y222 hH ?r222
                case y222 => (rintro w ⟨p0, p1⟩; go_simp; try with_reducible rfl)
                simp only [Act.put, List.setIfInBounds_toArray, List.set_cons_zero, List.set_cons_succ]
                refine take_an 4 77 (v := ?v223) rfl rfl (by kernel_rfl) (by kernel_rfl) (by kernel_rfl) (fun _ _ _ h => h) (by rfl) ?y223 hH ?r223
                case y223 => (rintro w ⟨p0, p1⟩; go_simp; try with_reducible rfl)
                simp only [Act.put, List.setIfInBounds_toArray, List.set_cons_zero, List.set_cons_succ]
                refine take_an 5 78 (v := ?v224) rfl rfl (by kernel_rfl) (by kernel_rfl) (by kernel_rfl) (fun _ _ _ h => h) (by rfl) ?y224 hH ?r224
                case y224 => (rintro w ⟨p0, p1⟩; go_simp; try with_reducible rfl)
                simp only [Act.put, List.setIfInBounds_toArray, List.set_cons_zero, List.set_cons_succ]
                refine take_an 6 79 (v := ?v225) rfl rfl (by kernel_rfl) (by kernel_rfl) (by kernel_rfl) (fun _ _ _ h => h) (by rfl) ?y225 hH ?r225
                case y225 => (rintro w ⟨p0, p1⟩; go_simp; try with_reducible rfl)
                simp only [Act.put, List.setIfInBounds_toArray, List.set_cons_zero, List.set_cons_succ]
                refine take_an 7 80 (v := ?v226) rfl rfl (by kernel_rfl) (by kernel_rfl) (by kernel_rfl) (fun _ _ _ h => h) (by rfl) ?y226 hH ?r226
                case y226 => (rintro w ⟨p0, p1⟩; go_simp; try with_reducible rfl)
                simp only [Act.put, List.setIfInBounds_toArray, List.set_cons_zero, List.set_cons_succ]
                refine take_an 8 81 (v := ?v227) rfl rfl (by kernel_rfl) (by kernel_rfl) (by kernel_rfl) (fun _ _ _ h => h) (by rfl) ?y227 hH ?r227
                case y227 => (rintro w ⟨p0, p1⟩; go_simp; try with_reducible rfl)
                simp only [Act.put, List.setIfInBounds_toArray, List.set_cons_zero, List.set_cons_succ]
                refine take_an 10 83 (v := ?v228) rfl rfl (by kernel_rfl) (by kernel_rfl) (by kernel_rfl) (fun _ _ _ h => h) (by rfl) ?y228 hH ?r228
                case y228 => (rintro w ⟨p0, p1⟩; go_simp; try with_reducible rfl)
                simp only [Act.put, List.setIfInBounds_toArray, List.set_cons_zero, List.set_cons_succ]
                refine take_an 11 84 (v := ?v229) rfl rfl (by kernel_rfl) (by kernel_rfl) (by kernel_rfl) (fun _ _ _ h => h) (by rfl) ?y229 hH ?r229
                case y229 => (rintro w ⟨p0, p1⟩; go_simp; try with_reducible rfl)
                simp only [Act.put, List.setIfInBounds_toArray, List.set_cons_zero, List.set_cons_succ]
                refine take_an 12 85 (v := ?v230) rfl rfl (by kernel_rfl) (by kernel_rfl) (by kernel_rfl) (fun _ _ _ h => h) (by rfl) ?y230 hH ?r230
                case y230 => (rintro w ⟨p0, p1⟩; go_simp; try with_reducible rfl)
                simp only [Act.put, List.setIfInBounds_toArray, List.set_cons_zero, List.set_cons_succ]
                refine take_an 13 86 (v := ?v231) rfl rfl (by kernel_rfl) (by kernel_rfl) (by kernel_rfl) (fun _ _ _ h => h) (by rfl) ?y231 hH ?r231
                case y231 => (rintro w ⟨p0, p1⟩; go_simp; try with_reducible rfl)
                simp only [Act.put, List.setIfInBounds_toArray, List.set_cons_zero, List.set_cons_succ]
                refine take_an 14 87 (v := ?v232) rfl rfl (by kernel_rfl) (by kernel_rfl) (by kernel_rfl) (fun _ _ _ h => h) (by rfl) ?y232 hH ?r232
                case y232 => (rintro w ⟨p0, p1⟩; go_simp; try with_reducible rfl)
                simp only [Act.put, List.setIfInBounds_toArray, List.set_cons_zero, List.set_cons_succ]
                refine wpAnyH_ready (rs := [9]) (by kernel_rfl) (by simp) ?_
                refine AllReadyH.cons rfl (fun K hK => ?_) AllReadyH.nil
                go_simp
                refine (ct _ hH.2).mono ?_
                rintro e u6 ⟨rfl, g6⟩
                clear ct
                go_wp2_with fail
                refine hK.out _ _ (held_1 hH g6) (fun h6 => ?_)
                clear hK K
                try simp only [Act.put, List.setIfInBounds_toArray, List.set_cons_zero, List.set_cons_succ]
                refine take_an 15 88 (v := ?v233) rfl rfl (by kernel_rfl) (by kernel_rfl) (by kernel_rfl) (fun _ _ _ h => h) (by rfl) ?y233 h6 ?r233
                case y233 => (rintro w ⟨p0, p1⟩; go_simp; try with_reducible rfl)
                simp only [Act.put, List.setIfInBounds_toArray, List.set_cons_zero, List.set_cons_succ]
                refine take_an 16 89 (v := ?v234) rfl rfl (by kernel_rfl) (by kernel_rfl) (by kernel_rfl) (fun _ _ _ h => h) (by rfl) ?y234 h6 ?r234
                case y234 => (rintro w ⟨p0, p1⟩; go_simp; try with_reducible rfl)
                simp only [Act.put, List.setIfInBounds_toArray, List.set_cons_zero, List.set_cons_succ]
                refine take_an 17 9 (v := ?v235) rfl rfl (by kernel_rfl) (by kernel_rfl) (by kernel_rfl) (fun _ _ _ h => h) (by rfl) ?y235 h6 ?r235
                case y235 => (rintro w ⟨p0, p1⟩; go_simp; try with_reducible rfl)
                simp only [Act.put, List.setIfInBounds_toArray, List.set_cons_zero, List.set_cons_succ]
                refine wpAnyH_done (by kernel_rfl) ?_ _
                refine NoPanic.normal ?_
                have HE := Lib.hid h6.2
                clear hH h6 g6 hb
                go_wp2_with fail
                go_roundw
                case rel => exact ⟨2 + 1, by omega, by rw [HS.out]; exact congrArg Value.bool hbe, rfl, HE.out⟩
                case measure => simp [intOf]
          · have hv : triAt ys 2 2 = ys.getD 8 0 := at_w HTY.out (j := 3) (by omega)
            have hcor := Lib.hid (E.out.2.2.2)
            have as' : Hid (agB ys m (3 + 1) = (agB ys m 3 && (ys.getD 8 0 == if corB m 3 then 2 else 0))) := AS
            have ct := fun w2 (g : v2.grownBy w2 none) => itat_any b cb ys 2 2 w2 (I8.out.grown g)
            rw [hv] at ct
            clear hv E AS
            generalize ys.getD 8 0 = y at *
            cases hag : agB ys m 3
            · have HS : Hid (agB ys m (3 + 1) = false) := by unfold Hid; rw [as'.out, hag]; rfl
              clear hcor ct as' hag
              go_wp2_with fail
              refine wp_region_noPanic ?_
              refine wp_region_held_drew (S := fun w' => w'.cell? ⟨u8.heap.size, 0, none⟩ = some (.slice b ys.length cb) ∧ v2.grownBy w' none) (by kernel_rfl) hb (fun hH => ?_)
              refine take_an 0 73 (v := ?v236) rfl rfl (by kernel_rfl) (by kernel_rfl) (by kernel_rfl) (fun _ _ _ h => h) (by rfl) ?y236 hH ?r236
              case y236 => (rintro w ⟨p0, p1⟩; go_simp; try with_reducible rfl)
              simp only [Act.put, List.setIfInBounds_toArray, List.set_cons_zero, List.set_cons_succ]
              refine take_an 1 74 (v := ?v237) rfl rfl (by kernel_rfl) (by kernel_rfl) (by kernel_rfl) (fun _ _ _ h => h) (by rfl) ?y237 hH ?r237
              case y237 => (rintro w ⟨p0, p1⟩; go_simp; try with_reducible rfl)
              simp only [Act.put, List.setIfInBounds_toArray, List.set_cons_zero, List.set_cons_succ]
              refine drop_an 2 75 rfl rfl (by kernel_rfl) (by kernel_rfl) (by kernel_rfl) (fun _ _ _ h => h) (by rfl) hH ?_
              simp only [Act.put, List.setIfInBounds_toArray, List.set_cons_zero, List.set_cons_succ]
              refine drop_an 3 76 rfl rfl (by kernel_rfl) (by kernel_rfl) (by kernel_rfl) (fun _ _ _ h => h) (by rfl) hH ?_
              simp only [Act.put, List.setIfInBounds_toArray, List.set_cons_zero, List.set_cons_succ]
              refine drop_an 4 77 rfl rfl (by kernel_rfl) (by kernel_rfl) (by kernel_rfl) (fun _ _ _ h => h) (by rfl) hH ?_
              simp only [Act.put, List.setIfInBounds_toArray, List.set_cons_zero, List.set_cons_succ]
              refine drop_an 5 78 rfl rfl (by kernel_rfl) (by kernel_rfl) (by kernel_rfl) (fun _ _ _ h => h) (by rfl) hH ?_
              simp only [Act.put, List.setIfInBounds_toArray, List.set_cons_zero, List.set_cons_succ]
              refine drop_an 6 79 rfl rfl (by kernel_rfl) (by kernel_rfl) (by kernel_rfl) (fun _ _ _ h => h) (by rfl) hH ?_
              simp only [Act.put, List.setIfInBounds_toArray, List.set_cons_zero, List.set_cons_succ]
              refine drop_an 7 80 rfl rfl (by kernel_rfl) (by kernel_rfl) (by kernel_rfl) (fun _ _ _ h => h) (by rfl) hH ?_
              simp only [Act.put, List.setIfInBounds_toArray, List.set_cons_zero, List.set_cons_succ]
              refine drop_an 8 81 rfl rfl (by kernel_rfl) (by kernel_rfl) (by kernel_rfl) (fun _ _ _ h => h) (by rfl) hH ?_
              simp only [Act.put, List.setIfInBounds_toArray, List.set_cons_zero, List.set_cons_succ]
              refine drop_an 9 82 rfl rfl (by kernel_rfl) (by kernel_rfl) (by kernel_rfl) (fun _ _ _ h => h) (by rfl) hH ?_
              simp only [Act.put, List.setIfInBounds_toArray, List.set_cons_zero, List.set_cons_succ]
              refine drop_an 10 83 rfl rfl (by kernel_rfl) (by kernel_rfl) (by kernel_rfl) (fun _ _ _ h => h) (by rfl) hH ?_
              simp only [Act.put, List.setIfInBounds_toArray, List.set_cons_zero, List.set_cons_succ]
              refine drop_an 11 84 rfl rfl (by kernel_rfl) (by kernel_rfl) (by kernel_rfl) (fun _ _ _ h => h) (by rfl) hH ?_
              simp only [Act.put, List.setIfInBounds_toArray, List.set_cons_zero, List.set_cons_succ]
              refine drop_an 12 85 rfl rfl (by kernel_rfl) (by kernel_rfl) (by kernel_rfl) (fun _ _ _ h => h) (by rfl) hH ?_
              simp only [Act.put, List.setIfInBounds_toArray, List.set_cons_zero, List.set_cons_succ]
              refine drop_an 13 86 rfl rfl (by kernel_rfl) (by kernel_rfl) (by kernel_rfl) (fun _ _ _ h => h) (by rfl) hH ?_
              simp only [Act.put, List.setIfInBounds_toArray, List.set_cons_zero, List.set_cons_succ]
              refine drop_an 14 87 rfl rfl (by kernel_rfl) (by kernel_rfl) (by kernel_rfl) (fun _ _ _ h => h) (by rfl) hH ?_
              simp only [Act.put, List.setIfInBounds_toArray, List.set_cons_zero, List.set_cons_succ]
              refine drop_an 15 88 rfl rfl (by kernel_rfl) (by kernel_rfl) (by kernel_rfl) (fun _ _ _ h => h) (by rfl) hH ?_
              simp only [Act.put, List.setIfInBounds_toArray, List.set_cons_zero, List.set_cons_succ]
              refine take_an 16 89 (v := ?v238) rfl rfl (by kernel_rfl) (by kernel_rfl) (by kernel_rfl) (fun _ _ _ h => h) (by rfl) ?y238 hH ?r238
              case y238 => (rintro w ⟨p0, p1⟩; go_simp; try with_reducible rfl)
              simp only [Act.put, List.setIfInBounds_toArray, List.set_cons_zero, List.set_cons_succ]
              refine take_an 17 9 (v := ?v239) rfl rfl (by kernel_rfl) (by kernel_rfl) (by kernel_rfl) (fun _ _ _ h => h) (by rfl) ?y239 hH ?r239
              case y239 => (rintro w ⟨p0, p1⟩; go_simp; try with_reducible rfl)
              simp only [Act.put, List.setIfInBounds_toArray, List.set_cons_zero, List.set_cons_succ]
              refine wpAnyH_done (by kernel_rfl) ?_ _
              refine NoPanic.normal ?_
              have HE := Lib.hid hH.2
              clear hH hb
              go_wp2_with fail
              go_roundw
              case rel => exact ⟨3 + 1, by omega, by rw [HS.out], rfl, HE.out⟩
              case measure => simp [intOf]
            · cases g3 : corB m 3
              · have q1 : ((m : Int) / 8) % 2 = 0 := by have := hcor.out; rw [g3] at this; have := beq_eq_false_iff_ne.1 this; omega
                have q2 : ((m : Int) / 8).tmod 2 = 0 := by rw [Int.tmod_eq_emod_of_nonneg (by omega)]; exact q1
                have HS : Hid (agB ys m (3 + 1) = (y == 0)) := by unfold Hid; rw [as'.out, hag, g3]; rfl
                clear hcor g3 as' hag
                obtain ⟨be, hbe⟩ : ∃ be, (y == 0) = be := ⟨_, rfl⟩
                rw [hbe] at HS
                go_wp2_with fail
                refine wp_region_noPanic ?_
                refine wp_region_held_drew (S := fun w' => w'.cell? ⟨u8.heap.size, 0, none⟩ = some (.slice b ys.length cb) ∧ v2.grownBy w' none) (by kernel_rfl) hb (fun hH => ?_)
                refine take_an 0 73 (v := ?v240) rfl rfl (by kernel_rfl) (by kernel_rfl) (by kernel_rfl) (fun _ _ _ h => h) (by rfl) ?y240 hH ?r240
                case y240 => (rintro w ⟨p0, p1⟩; go_simp; try with_reducible rfl)
                simp only [Act.put, List.setIfInBounds_toArray, List.set_cons_zero, List.set_cons_succ]
                refine take_an 1 74 (v := ?v241) rfl rfl (by kernel_rfl) (by kernel_rfl) (by kernel_rfl) (fun _ _ _ h => h) (by rfl) ?y241 hH ?r241
                case y241 => (rintro w ⟨p0, p1⟩; go_simp; try with_reducible rfl)
                simp only [Act.put, List.setIfInBounds_toArray, List.set_cons_zero, List.set_cons_succ]
                refine take_an 2 75 (v := ?v242) rfl rfl (by kernel_rfl) (by kernel_rfl) (by kernel_rfl) (fun _ _ _ h => h) (by rfl) ?y242 hH ?r242
                case y242 => (rintro w ⟨p0, p1⟩; go_simp; try with_reducible rfl)
                simp only [Act.put, List.setIfInBounds_toArray, List.set_cons_zero, List.set_cons_succ]
                refine take_an 3 76 (v := ?v243) rfl rfl (by kernel_rfl) (by kernel_rfl) (by kernel_rfl) (fun _ _ _ h => h) (by rfl) ?y243 hH ?r243
                case y243 => (rintro w ⟨p0, p1⟩; go_simp; try with_reducible rfl)
                simp only [Act.put, List.setIfInBounds_toArray, List.set_cons_zero, List.set_cons_succ]
                refine take_an 4 77 (v := ?v244) rfl rfl (by kernel_rfl) (by kernel_rfl) (by kernel_rfl) (fun _ _ _ h => h) (by rfl) ?y244 hH ?r244
                case y244 => (rintro w ⟨p0, p1⟩; go_simp; try with_reducible rfl)
                simp only [Act.put, List.setIfInBounds_toArray, List.set_cons_zero, List.set_cons_succ]
                refine take_an 5 78 (v := ?v245) rfl rfl (by kernel_rfl) (by kernel_rfl) (by kernel_rfl) (fun _ _ _ h => h) (by rfl) ?y245 hH ?r245
                case y245 => (rintro w ⟨p0, p1⟩; go_simp; try with_reducible rfl)
                simp only [Act.put, List.setIfInBounds_toArray, List.set_cons_zero, List.set_cons_succ]
                refine take_an 6 79 (v := ?v246) rfl rfl (by kernel_rfl) (by kernel_rfl) (by kernel_rfl) (fun _ _ _ h => h) (by rfl) ?y246 hH ?r246
                case y246 => (rintro w ⟨p0, p1⟩; go_simp; try with_reducible rfl)
                simp only [Act.put, List.setIfInBounds_toArray, List.set_cons_zero, List.set_cons_succ]
                refine take_an 7 80 (v := ?v247) rfl rfl (by kernel_rfl) (by kernel_rfl) (by kernel_rfl) (fun _ _ _ h => h) (by rfl) ?y247 hH ?r247
                case y247 => (rintro w ⟨p0, p1⟩; go_simp; try with_reducible rfl)
                simp only [Act.put, List.setIfInBounds_toArray, List.set_cons_zero, List.set_cons_succ]
                refine take_an 8 81 (v := ?v248) rfl rfl (by kernel_rfl) (by kernel_rfl) (by kernel_rfl) (fun _ _ _ h => h) (by rfl) ?y248 hH ?r248
                case y248 => (rintro w ⟨p0, p1⟩; go_simp; try with_reducible rfl)
                simp only [Act.put, List.setIfInBounds_toArray, List.set_cons_zero, List.set_cons_succ]
                refine take_an 10 83 (v := ?v249) rfl rfl (by kernel_rfl) (by kernel_rfl) (by kernel_rfl) (fun _ _ _ h => h) (by rfl) ?y249 hH ?r249
                case y249 => (rintro w ⟨p0, p1⟩; go_simp; try with_reducible rfl)
                simp only [Act.put, List.setIfInBounds_toArray, List.set_cons_zero, List.set_cons_succ]
                refine take_an 11 84 (v := ?v250) rfl rfl (by kernel_rfl) (by kernel_rfl) (by kernel_rfl) (fun _ _ _ h => h) (by rfl) ?y250 hH ?r250
                case y250 => (rintro w ⟨p0, p1⟩; go_simp; try with_reducible rfl)
                simp only [Act.put, List.setIfInBounds_toArray, List.set_cons_zero, List.set_cons_succ]
                refine take_an 12 85 (v := ?v251) rfl rfl (by kernel_rfl) (by kernel_rfl) (by kernel_rfl) (fun _ _ _ h => h) (by rfl) ?y251 hH ?r251
                case y251 => (rintro w ⟨p0, p1⟩; go_simp; try with_reducible rfl)
                simp only [Act.put, List.setIfInBounds_toArray, List.set_cons_zero, List.set_cons_succ]
                refine take_an 13 86 (v := ?v252) rfl rfl (by kernel_rfl) (by kernel_rfl) (by kernel_rfl) (fun _ _ _ h => h) (by rfl) ?y252 hH ?r252
                case y252 => (rintro w ⟨p0, p1⟩; go_simp; try with_reducible rfl)
                simp only [Act.put, List.setIfInBounds_toArray, List.set_cons_zero, List.set_cons_succ]
                refine take_an 14 87 (v := ?v253) rfl rfl (by kernel_rfl) (by kernel_rfl) (by kernel_rfl) (fun _ _ _ h => h) (by rfl) ?y253 hH ?r253
                case y253 => (rintro w ⟨p0, p1⟩; go_simp; try with_reducible rfl)
                simp only [Act.put, List.setIfInBounds_toArray, List.set_cons_zero, List.set_cons_succ]
                refine wpAnyH_ready (rs := [9]) (by kernel_rfl) (by simp) ?_
                refine AllReadyH.cons rfl (fun K hK => ?_) AllReadyH.nil
                go_simp
                refine (ct _ hH.2).mono ?_
                rintro e u6 ⟨rfl, g6⟩
                clear ct
                go_wp2_with fail
                refine hK.out _ _ (held_1 hH g6) (fun h6 => ?_)
                clear hK K
                try simp only [Act.put, List.setIfInBounds_toArray, List.set_cons_zero, List.set_cons_succ]
                refine take_an 15 88 (v := ?v254) rfl rfl (by kernel_rfl) (by kernel_rfl) (by kernel_rfl) (fun _ _ _ h => h) (by rfl) ?y254 h6 ?r254
                case y254 => (rintro w ⟨p0, p1⟩; go_simp; try with_reducible rfl)
                simp only [Act.put, List.setIfInBounds_toArray, List.set_cons_zero, List.set_cons_succ]
                refine take_an 16 89 (v := ?v255) rfl rfl (by kernel_rfl) (by kernel_rfl) (by kernel_rfl) (fun _ _ _ h => h) (by rfl) ?y255 h6 ?r255
                case y255 => (rintro w ⟨p0, p1⟩; go_simp; try with_reducible rfl)
                simp only [Act.put, List.setIfInBounds_toArray, List.set_cons_zero, List.set_cons_succ]
                refine take_an 17 9 (v := ?v256) rfl rfl (by kernel_rfl) (by kernel_rfl) (by kernel_rfl) (fun _ _ _ h => h) (by rfl) ?y256 h6 ?r256
                case y256 => (rintro w ⟨p0, p1⟩; go_simp; try with_reducible rfl)
                simp only [Act.put, List.setIfInBounds_toArray, List.set_cons_zero, List.set_cons_succ]
                refine wpAnyH_done (by kernel_rfl) ?_ _
                refine NoPanic.normal ?_
                have HE := Lib.hid h6.2
                clear hH h6 g6 hb
                go_wp2_with fail
                go_roundw
                case rel => exact ⟨3 + 1, by omega, by rw [HS.out]; exact congrArg Value.bool hbe, rfl, HE.out⟩
                case measure => simp [intOf]
              · have q1 : ((m : Int) / 8) % 2 = 1 := by have := hcor.out; rw [g3] at this; exact beq_iff_eq.1 this
                have q2 : ((m : Int) / 8).tmod 2 = 1 := by rw [Int.tmod_eq_emod_of_nonneg (by omega)]; exact q1
                have HS : Hid (agB ys m (3 + 1) = (y == 2)) := by unfold Hid; rw [as'.out, hag, g3]; rfl
                clear hcor g3 as' hag
                obtain ⟨be, hbe⟩ : ∃ be, (y == 2) = be := ⟨_, rfl⟩
                rw [hbe] at HS
                go_wp2_with fail
                refine wp_region_noPanic ?_
                refine wp_region_held_drew (S := fun w' => w'.cell? ⟨u8.heap.size, 0, none⟩ = some (.slice b ys.length cb) ∧ v2.grownBy w' none) (by kernel_rfl) hb (fun hH => ?_)
                refine take_an 0 73 (v := ?v257) rfl rfl (by kernel_rfl) (by kernel_rfl) (by kernel_rfl) (fun _ _ _ h => h) (by rfl) ?y257 hH ?r257
                case y257 => (rintro w ⟨p0, p1⟩; go_simp; try with_reducible rfl)
                simp only [Act.put, List.setIfInBounds_toArray, List.set_cons_zero, List.set_cons_succ]
                refine take_an 1 74 (v := ?v258) rfl rfl (by kernel_rfl) (by kernel_rfl) (by kernel_rfl) (fun _ _ _ h => h) (by rfl) ?y258 hH ?r258
                case y258 => (rintro w ⟨p0, p1⟩; go_simp; try with_reducible rfl)
                simp only [Act.put, List.setIfInBounds_toArray, List.set_cons_zero, List.set_cons_succ]
                refine take_an 2 75 (v := ?v259) rfl rfl (by kernel_rfl) (by kernel_rfl) (by kernel_rfl) (fun _ _ _ h => h) (by rfl) ?y259 hH ?r259
                case y259 => (rintro w ⟨p0, p1⟩; go_simp; try with_reducible rfl)
                simp only [Act.put, List.setIfInBounds_toArray, List.set_cons_zero, List.set_cons_succ]
                refine take_an 3 76 (v := ?v260) rfl rfl (by kernel_rfl) (by kernel_rfl) (by kernel_rfl) (fun _ _ _ h => h) (by rfl) ?y260 hH ?r260
                case y260 => (rintro w ⟨p0, p1⟩; go_simp; try with_reducible rfl)
                simp only [Act.put, List.setIfInBounds_toArray, List.set_cons_zero, List.set_cons_succ]
                refine take_an 4 77 (v := ?v261) rfl rfl (by kernel_rfl) (by kernel_rfl) (by kernel_rfl) (fun _ _ _ h => h) (by rfl) ?y261 hH ?r261
                case y261 => (rintro w ⟨p0, p1⟩; go_simp; try with_reducible rfl)
                simp only [Act.put, List.setIfInBounds_toArray, List.set_cons_zero, List.set_cons_succ]
                refine take_an 5 78 (v := ?v262) rfl rfl (by kernel_rfl) (by kernel_rfl) (by kernel_rfl) (fun _ _ _ h => h) (by rfl) ?y262 hH ?r262
                case y262 => (rintro w ⟨p0, p1⟩; go_simp; try with_reducible rfl)
                simp only [Act.put, List.setIfInBounds_toArray, List.set_cons_zero, List.set_cons_succ]
                refine take_an 6 79 (v := ?v263) rfl rfl (by kernel_rfl) (by kernel_rfl) (by kernel_rfl) (fun _ _ _ h => h) (by rfl) ?y263 hH ?r263
                case y263 => (rintro w ⟨p0, p1⟩; go_simp; try with_reducible rfl)
                simp only [Act.put, List.setIfInBounds_toArray, List.set_cons_zero, List.set_cons_succ]
                refine take_an 7 80 (v := ?v264) rfl rfl (by kernel_rfl) (by kernel_rfl) (by kernel_rfl) (fun _ _ _ h => h) (by rfl) ?y264 hH ?r264
                case y264 => (rintro w ⟨p0, p1⟩; go_simp; try with_reducible rfl)
                simp only [Act.put, List.setIfInBounds_toArray, List.set_cons_zero, List.set_cons_succ]
                refine take_an 8 81 (v := ?v265) rfl rfl (by kernel_rfl) (by kernel_rfl) (by kernel_rfl) (fun _ _ _ h => h) (by rfl) ?y265 hH ?r265
                case y265 => (rintro w ⟨p0, p1⟩; go_simp; try with_reducible rfl)
                simp only [Act.put, List.setIfInBounds_toArray, List.set_cons_zero, List.set_cons_succ]
                refine take_an 10 83 (v := ?v266) rfl rfl (by kernel_rfl) (by kernel_rfl) (by kernel_rfl) (fun _ _ _ h => h) (by rfl) ?y266 hH ?r266
                case y266 => (rintro w ⟨p0, p1⟩; go_simp; try with_reducible rfl)
                simp only [Act.put, List.setIfInBounds_toArray, List.set_cons_zero, List.set_cons_succ]
                refine take_an 11 84 (v := ?v267) rfl rfl (by kernel_rfl) (by kernel_rfl) (by kernel_rfl) (fun _ _ _ h => h) (by rfl) ?y267 hH ?r267
                case y267 => (rintro w ⟨p0, p1⟩; go_simp; try with_reducible rfl)
                simp only [Act.put, List.setIfInBounds_toArray, List.set_cons_zero, List.set_cons_succ]
                refine take_an 12 85 (v := ?v268) rfl rfl (by kernel_rfl) (by kernel_rfl) (by kernel_rfl) (fun _ _ _ h => h) (by rfl) ?y268 hH ?r268
                case y268 => (rintro w ⟨p0, p1⟩; go_simp; try with_reducible rfl)
                simp only [Act.put, List.setIfInBounds_toArray, List.set_cons_zero, List.set_cons_succ]
                refine take_an 13 86 (v := ?v269) rfl rfl (by kernel_rfl) (by kernel_rfl) (by kernel_rfl) (fun _ _ _ h => h) (by rfl) ?y269 hH ?r269
                case y269 => (rintro w ⟨p0, p1⟩; go_simp; try with_reducible rfl)
                simp only [Act.put, List.setIfInBounds_toArray, List.set_cons_zero, List.set_cons_succ]
                refine take_an 14 87 (v := ?v270) rfl rfl (by kernel_rfl) (by kernel_rfl) (by kernel_rfl) (fun _ _ _ h => h) (by rfl) ?y270 hH ?r270
                case y270 => (rintro w ⟨p0, p1⟩; go_simp; try with_reducible rfl)
                simp only [Act.put, List.setIfInBounds_toArray, List.set_cons_zero, List.set_cons_succ]
                refine wpAnyH_ready (rs := [9]) (by kernel_rfl) (by simp) ?_
                refine AllReadyH.cons rfl (fun K hK => ?_) AllReadyH.nil
                go_simp
                refine (ct _ hH.2).mono ?_
                rintro e u6 ⟨rfl, g6⟩
                clear ct
                go_wp2_with fail
                refine hK.out _ _ (held_1 hH g6) (fun h6 => ?_)
                clear hK K
                try simp only [Act.put, List.setIfInBounds_toArray, List.set_cons_zero, List.set_cons_succ]
                refine take_an 15 88 (v := ?v271) rfl rfl (by kernel_rfl) (by kernel_rfl) (by kernel_rfl) (fun _ _ _ h => h) (by rfl) ?y271 h6 ?r271
                case y271 => (rintro w ⟨p0, p1⟩; go_simp; try with_reducible rfl)
                simp only [Act.put, List.setIfInBounds_toArray, List.set_cons_zero, List.set_cons_succ]
                refine take_an 16 89 (v := ?v272) rfl rfl (by kernel_rfl) (by kernel_rfl) (by kernel_rfl) (fun _ _ _ h => h) (by rfl) ?y272 h6 ?r272
                case y272 => (rintro w ⟨p0, p1⟩; go_simp; try with_reducible rfl)
                simp only [Act.put, List.setIfInBounds_toArray, List.set_cons_zero, List.set_cons_succ]
                refine take_an 17 9 (v := ?v273) rfl rfl (by kernel_rfl) (by kernel_rfl) (by kernel_rfl) (fun _ _ _ h => h) (by rfl) ?y273 h6 ?r273
                case y273 => (rintro w ⟨p0, p1⟩; go_simp; try with_reducible rfl)
                simp only [Act.put, List.setIfInBounds_toArray, List.set_cons_zero, List.set_cons_succ]
                refine wpAnyH_done (by kernel_rfl) ?_ _
                refine NoPanic.normal ?_
                have HE := Lib.hid h6.2
                clear hH h6 g6 hb
                go_wp2_with fail
                go_roundw
                case rel => exact ⟨3 + 1, by omega, by rw [HS.out]; exact congrArg Value.bool hbe, rfl, HE.out⟩
                case measure => simp [intOf]
        · obtain rfl : j = 4 := by omega
          have HG2 := Lib.hid hgr
          clear hlt hj hgr
          cases hag : agB ys m 4
          · clear hag
            go_wp2_with fail
            go_loopw [11] (fun i wr => i = .int .i64 0 ∧ v2.grownBy wr none) (fun _ _ => 0)
            case atStart => exact ⟨rfl, HG2.out⟩
            case round =>
              obtain ⟨rfl, hgr3⟩ := hrel
              have HG3 := Lib.hid hgr3
              clear hgr3
              have cn := inam_any 0 wr
              rw [← hz8.out, HP8.out, show inN 0 = true from rfl] at cn
              go_wp2_with fail
              refine cn.mono ?_
              rintro e x10 ⟨e0, ce0, rfl, hO10, g10⟩
              clear cn
              have ga := World.grownBy_alloc x10 (.cells #[.slice e0 p8.length ce0] 25) none
              have T13 := Lib.hid (T1.new x10 (.slice e0 p8.length ce0))
              have I13 := Lib.hid ((hO10.kept ga).at (by rw [← HP8.out, hl8.out]; unfold maxLen; omega))
              have G3 := Lib.hid (grownBy_trans HG3.out (grownBy_trans g10 ga))
              generalize hv3 : x10.alloc (.cells #[.slice e0 p8.length ce0] 25) = v3 at *
              clear hO10 g10 ga
              have cn := inam_any 1 v3
              rw [← hz14.out, HP14.out, show inN 1 = true from rfl] at cn
              go_wp2_with fail
              clear hv3
              refine cn.mono ?_
              rintro e x11 ⟨e1, ce1, rfl, hO11, g11⟩
              clear cn
              have ga := World.grownBy_alloc x11 (.cells #[.slice e1 p14.length ce1] 25) none
              have T15 := Lib.hid (T1.new x11 (.slice e1 p14.length ce1))
              have I15 := Lib.hid ((hO11.kept ga).at (by rw [← HP14.out, hl14.out]; unfold maxLen; omega))
              have g34 := grownBy_trans g11 ga
              have G4 := Lib.hid (grownBy_trans G3.out g34)
              generalize hv4 : x11.alloc (.cells #[.slice e1 p14.length ce1] 25) = v4 at *
              have C6d := Lib.hid (G4.out.cell C6b.out (by simp))
              have C13 := Lib.hid (g34.cell T13.out.cell (by simp))
              have C15 := Lib.hid T15.out.cell
              have I13b := Lib.hid (I13.out.grown g34)
              have I6d := Lib.hid (I6b.out.grown G4.out)
              have hrr : regB rs = true := by rw [HZ.out]; exact str_regm HM.out
              have c6 := fun w2 (g : v4.grownBy w2 none) => ireg_any d cd rs w2 (I6d.out.grown g)
              rw [hrr] at c6
              have c8 := fun w2 => istr_any 8 w2
              have c14 := fun w2 => istr_any 14 w2
              rw [HP8.out] at c8
              rw [HP14.out] at c14
              clear hO11 g11 ga g34 hrr
              have hgd : v4.grownBy v4.drew none := grownBy_drew (grownBy_refl _ _)
              have hb : v4.drew.cell? ⟨u2.heap.size, 0, none⟩ = some (.slice d rs.length cd) ∧ v4.drew.cell? ⟨x10.heap.size, 0, none⟩ = some (.slice e0 p8.length ce0) ∧ v4.drew.cell? ⟨x11.heap.size, 0, none⟩ = some (.slice e1 p14.length ce1) ∧ v4.grownBy v4.drew none := ⟨hgd.cell C6d.out (by simp), hgd.cell C13.out (by simp), hgd.cell C15.out (by simp), hgd⟩
              clear hgd
              go_wp2_with fail
              clear hv4
              refine wp_region_noPanic ?_
              refine wp_region_held_drew (S := fun w' => w'.cell? ⟨u2.heap.size, 0, none⟩ = some (.slice d rs.length cd) ∧ w'.cell? ⟨x10.heap.size, 0, none⟩ = some (.slice e0 p8.length ce0) ∧ w'.cell? ⟨x11.heap.size, 0, none⟩ = some (.slice e1 p14.length ce1) ∧ v4.grownBy w' none) (by kernel_rfl) hb (fun hH => ?_)
              refine take_an 0 123 (v := ?v274) rfl rfl (by kernel_rfl) (by kernel_rfl) (by kernel_rfl) (fun _ _ _ h => h) (by rfl) ?y274 hH ?r274
              case y274 => (rintro w ⟨p0, p1, p2, p3⟩; go_simp; try with_reducible rfl)
              simp only [Act.put, List.setIfInBounds_toArray, List.set_cons_zero, List.set_cons_succ]
              refine wpAnyH_ready (rs := [1]) (by kernel_rfl) (by simp) ?_
              refine AllReadyH.cons rfl (fun K hK => ?_) AllReadyH.nil
              go_simp
              refine (c6 _ hH.2.2.2).mono ?_
              rintro e x12 ⟨rfl, g12⟩
              clear c6
              go_wp2_with fail
              refine hK.out _ _ (held_3 hH g12) (fun k1 => ?_)
              clear hK K
              try simp only [Act.put, List.setIfInBounds_toArray, List.set_cons_zero, List.set_cons_succ]
              refine take_an 2 125 (v := ?v275) rfl rfl (by kernel_rfl) (by kernel_rfl) (by kernel_rfl) (fun _ _ _ h => h) (by rfl) ?y275 k1 ?r275
              case y275 => (rintro w ⟨p0, p1, p2, p3⟩; go_simp; try with_reducible rfl)
              simp only [Act.put, List.setIfInBounds_toArray, List.set_cons_zero, List.set_cons_succ]
              refine take_an 3 126 (v := ?v276) rfl rfl (by kernel_rfl) (by kernel_rfl) (by kernel_rfl) (fun _ _ _ h => h) (by rfl) ?y276 k1 ?r276
              case y276 => (rintro w ⟨p0, p1, p2, p3⟩; go_simp; try with_reducible rfl)
              simp only [Act.put, List.setIfInBounds_toArray, List.set_cons_zero, List.set_cons_succ]
              refine take_an 4 127 (v := ?v277) rfl rfl (by kernel_rfl) (by kernel_rfl) (by kernel_rfl) (fun _ _ _ h => h) (by rfl) ?y277 k1 ?r277
              case y277 => (rintro w ⟨p0, p1, p2, p3⟩; go_simp; try with_reducible rfl)
              simp only [Act.put, List.setIfInBounds_toArray, List.set_cons_zero, List.set_cons_succ]
              refine take_an 5 128 (v := ?v278) rfl rfl (by kernel_rfl) (by kernel_rfl) (by kernel_rfl) (fun _ _ _ h => h) (by rfl) ?y278 k1 ?r278
              case y278 => (rintro w ⟨p0, p1, p2, p3⟩; go_simp; try with_reducible rfl)
              simp only [Act.put, List.setIfInBounds_toArray, List.set_cons_zero, List.set_cons_succ]
              refine take_an 6 129 (v := ?v279) rfl rfl (by kernel_rfl) (by kernel_rfl) (by kernel_rfl) (fun _ _ _ h => h) (by rfl) ?y279 k1 ?r279
              case y279 => (rintro w ⟨p0, p1, p2, p3⟩; go_simp; try with_reducible rfl)
              simp only [Act.put, List.setIfInBounds_toArray, List.set_cons_zero, List.set_cons_succ]
              refine take_an 7 130 (v := ?v280) rfl rfl (by kernel_rfl) (by kernel_rfl) (by kernel_rfl) (fun _ _ _ h => h) (by rfl) ?y280 k1 ?r280
              case y280 => (rintro w ⟨p0, p1, p2, p3⟩; go_simp; try with_reducible rfl)
              simp only [Act.put, List.setIfInBounds_toArray, List.set_cons_zero, List.set_cons_succ]
              refine take_an 8 131 (v := ?v281) rfl rfl (by kernel_rfl) (by kernel_rfl) (by kernel_rfl) (fun _ _ _ h => h) (by rfl) ?y281 k1 ?r281
              case y281 => (rintro w ⟨p0, p1, p2, p3⟩; go_simp; try with_reducible rfl)
              simp only [Act.put, List.setIfInBounds_toArray, List.set_cons_zero, List.set_cons_succ]
              refine take_an 10 133 (v := ?v282) rfl rfl (by kernel_rfl) (by kernel_rfl) (by kernel_rfl) (fun _ _ _ h => h) (by rfl) ?y282 k1 ?r282
              case y282 => (rintro w ⟨p0, p1, p2, p3⟩; go_simp; try with_reducible rfl)
              simp only [Act.put, List.setIfInBounds_toArray, List.set_cons_zero, List.set_cons_succ]
              refine wpAnyH_ready (rs := [9]) (by kernel_rfl) (by simp) ?_
              refine AllReadyH.cons rfl (fun K hK => ?_) AllReadyH.nil
              go_simp
              refine (c8 _).mono ?_
              rintro e x13 ⟨f0, cf0, rfl, hO13, g13⟩
              have J13 := Lib.hid (hO13.at (by rw [← HP8.out, hl8.out]; unfold maxLen; omega))
              clear c8 hO13
              go_wp2_with fail
              refine hK.out _ _ (held_3 k1 g13) (fun k2 => ?_)
              clear hK K
              try simp only [Act.put, List.setIfInBounds_toArray, List.set_cons_zero, List.set_cons_succ]
              refine wpAnyH_ready (rs := [11]) (by kernel_rfl) (by simp) ?_
              refine AllReadyH.cons rfl (fun K hK => ?_) AllReadyH.nil
              go_simp
              have ce := sameT_any f0 e0 cf0 ce0 p8 p8 x13 J13.out (I13b.out.grown k2.2.2.2)
              rw [sameL_self] at ce
              refine ce.mono ?_
              rintro e x14 ⟨rfl, g14⟩
              clear ce
              go_wp2_with fail
              refine hK.out _ _ (held_3 k2 g14) (fun k3 => ?_)
              clear hK K
              try simp only [Act.put, List.setIfInBounds_toArray, List.set_cons_zero, List.set_cons_succ]
              refine take_an 12 135 (v := ?v283) rfl rfl (by kernel_rfl) (by kernel_rfl) (by kernel_rfl) (fun _ _ _ h => h) (by rfl) ?y283 k3 ?r283
              case y283 => (rintro w ⟨p0, p1, p2, p3⟩; go_simp; try with_reducible rfl)
              simp only [Act.put, List.setIfInBounds_toArray, List.set_cons_zero, List.set_cons_succ]
              refine take_an 13 136 (v := ?v284) rfl rfl (by kernel_rfl) (by kernel_rfl) (by kernel_rfl) (fun _ _ _ h => h) (by rfl) ?y284 k3 ?r284
              case y284 => (rintro w ⟨p0, p1, p2, p3⟩; go_simp; try with_reducible rfl)
              simp only [Act.put, List.setIfInBounds_toArray, List.set_cons_zero, List.set_cons_succ]
              refine take_an 15 138 (v := ?v285) rfl rfl (by kernel_rfl) (by kernel_rfl) (by kernel_rfl) (fun _ _ _ h => h) (by rfl) ?y285 k3 ?r285
              case y285 => (rintro w ⟨p0, p1, p2, p3⟩; go_simp; try with_reducible rfl)
              simp only [Act.put, List.setIfInBounds_toArray, List.set_cons_zero, List.set_cons_succ]
              refine wpAnyH_ready (rs := [14]) (by kernel_rfl) (by simp) ?_
              refine AllReadyH.cons rfl (fun K hK => ?_) AllReadyH.nil
              go_simp
              refine (c14 _).mono ?_
              rintro e x15 ⟨f1, cf1, rfl, hO15, g15⟩
              have J15 := Lib.hid (hO15.at (by rw [← HP14.out, hl14.out]; unfold maxLen; omega))
              clear c14 hO15
              go_wp2_with fail
              refine hK.out _ _ (held_3 k3 g15) (fun k4 => ?_)
              clear hK K
              try simp only [Act.put, List.setIfInBounds_toArray, List.set_cons_zero, List.set_cons_succ]
              refine wpAnyH_ready (rs := [16]) (by kernel_rfl) (by simp) ?_
              refine AllReadyH.cons rfl (fun K hK => ?_) AllReadyH.nil
              go_simp
              have ce := sameT_any f1 e1 cf1 ce1 p14 p14 x15 J15.out (I15.out.grown k4.2.2.2)
              rw [sameL_self] at ce
              refine ce.mono ?_
              rintro e x16 ⟨rfl, g16⟩
              clear ce
              go_wp2_with fail
              refine hK.out _ _ (held_3 k4 g16) (fun k5 => ?_)
              clear hK K
              try simp only [Act.put, List.setIfInBounds_toArray, List.set_cons_zero, List.set_cons_succ]
              refine take_an 17 140 (v := ?v286) rfl rfl (by kernel_rfl) (by kernel_rfl) (by kernel_rfl) (fun _ _ _ h => h) (by rfl) ?y286 k5 ?r286
              case y286 => (rintro w ⟨p0, p1, p2, p3⟩; go_simp; try with_reducible rfl)
              simp only [Act.put, List.setIfInBounds_toArray, List.set_cons_zero, List.set_cons_succ]
              refine take_an 18 4 (v := ?v287) rfl rfl (by kernel_rfl) (by kernel_rfl) (by kernel_rfl) (fun _ _ _ h => h) (by rfl) ?y287 k5 ?r287
              case y287 => (rintro w ⟨p0, p1, p2, p3⟩; go_simp; try with_reducible rfl)
              simp only [Act.put, List.setIfInBounds_toArray, List.set_cons_zero, List.set_cons_succ]
              refine wpAnyH_done (by kernel_rfl) ?_ _
              refine NoPanic.normal ?_
              go_wp2_with fail
              go_ret
              exact ⟨rfl, below_of (grownBy_trans G2.out (grownBy_trans G4.out k5.2.2.2))⟩
          · have WAY := fun {k : Nat} (hk : k < 9) => str_way HM.out HRG.out hag hk
            clear hag
            rw [← HZ.out] at WAY
            have WY := Lib.hid (fun k hk => @WAY k hk)
            clear WAY
            go_wp2_with fail
            go_loopw [11] (fun i wr => ∃ k : Nat, k ≤ 9 ∧ i = .int .i64 k ∧ v2.grownBy wr none) (fun i _ => 9 - (intOf i).toNat)
            case atStart => exact ⟨0, by omega, rfl, HG2.out⟩
            case round =>
              obtain ⟨k, hk, rfl, hgr3⟩ := hrel
              by_cases hlt : k < 9
              · have hv := WY.out k hlt
                have HLT := Lib.hid hlt
                have i9 : (k : Int) < 9 := by omega
                obtain ⟨A, hA⟩ : ∃ A, A = k / 3 := ⟨_, rfl⟩
                obtain ⟨B, hB⟩ : ∃ B, B = k % 3 := ⟨_, rfl⟩
                have tA : (k : Int).tdiv 3 = (A : Int) := by rw [Int.tdiv_eq_ediv_of_nonneg (by omega)]; omega
                have tB : (k : Int).tmod 3 = (B : Int) := by rw [Int.tmod_eq_emod_of_nonneg (by omega)]; omega
                have eA : (k : Int) / 3 = (A : Int) := by omega
                have eB : (k : Int) % 3 = (B : Int) := by omega
                rw [← hA, ← hB] at hv
                have n8 := hgr3.cell C8.out (by simp)
                have cy := itat_any b cb ys (A : Int) (B : Int) wr (I8.out.grown hgr3)
                have cr := fun w2 (g : v2.grownBy w2 none) => itat_any d cd rs (A : Int) (B : Int) w2 (I6b.out.grown g)
                have HG3 := Lib.hid hgr3
                generalize triAt ys (A : Int) (B : Int) = V at *
                generalize triAt rs (A : Int) (B : Int) = R at *
                clear hlt hk hgr3 hA hB
                go_wp2_with fail
                refine cy.mono ?_
                rintro e w6 ⟨rfl, g6⟩
                clear cy n8
                have G6 := Lib.hid (grownBy_trans HG3.out g6)
                have n6 := G6.out.cell C6b.out (by simp)
                clear g6
                by_cases h1 : V = 1
                · have e1 : (V != 1) = false := by rw [h1]; rfl
                  clear hv cr n6 h1
                  go_wp2_with fail
                  go_roundw
                  case rel => exact ⟨_, _, _, _, _, _, _, _, _, _, _, _, _, _, _, _, _, _, _, _, _, _, _, _, _, _, _, _, ⟨k + 1, HLT.out, by go_num, G6.out⟩, rfl⟩
                  case measure => have := HLT.out; simp [intOf]; omega
                · have e1 : (V != 1) = true := by simpa using h1
                  rcases hv with hv | rfl
                  · exact absurd hv h1
                  have e2 : (R != R) = false := by simp
                  clear h1
                  go_wp2_with fail
                  refine (cr _ G6.out).mono ?_
                  rintro e w7 ⟨rfl, g7⟩
                  clear cr n6
                  go_wp2_with fail
                  go_roundw
                  case rel => exact ⟨_, _, _, _, _, _, _, _, _, _, _, _, _, _, _, _, _, _, _, _, _, _, _, _, _, _, _, _, ⟨k + 1, HLT.out, by go_num, grownBy_trans G6.out g7⟩, rfl⟩
                  case measure => have := HLT.out; simp [intOf]; omega
              · obtain rfl : k = 9 := by omega
                have HG3 := Lib.hid hgr3
                clear hlt hk hgr3
                have cn := inam_any 0 wr
                rw [← hz8.out, HP8.out, show inN 0 = true from rfl] at cn
                go_wp2_with fail
                refine cn.mono ?_
                rintro e x10 ⟨e0, ce0, rfl, hO10, g10⟩
                clear cn
                have ga := World.grownBy_alloc x10 (.cells #[.slice e0 p8.length ce0] 25) none
                have T13 := Lib.hid (T1.new x10 (.slice e0 p8.length ce0))
                have I13 := Lib.hid ((hO10.kept ga).at (by rw [← HP8.out, hl8.out]; unfold maxLen; omega))
                have G3 := Lib.hid (grownBy_trans HG3.out (grownBy_trans g10 ga))
                generalize hv3 : x10.alloc (.cells #[.slice e0 p8.length ce0] 25) = v3 at *
                clear hO10 g10 ga
                have cn := inam_any 1 v3
                rw [← hz14.out, HP14.out, show inN 1 = true from rfl] at cn
                go_wp2_with fail
                clear hv3
                refine cn.mono ?_
                rintro e x11 ⟨e1, ce1, rfl, hO11, g11⟩
                clear cn
                have ga := World.grownBy_alloc x11 (.cells #[.slice e1 p14.length ce1] 25) none
                have T15 := Lib.hid (T1.new x11 (.slice e1 p14.length ce1))
                have I15 := Lib.hid ((hO11.kept ga).at (by rw [← HP14.out, hl14.out]; unfold maxLen; omega))
                have g34 := grownBy_trans g11 ga
                have G4 := Lib.hid (grownBy_trans G3.out g34)
                generalize hv4 : x11.alloc (.cells #[.slice e1 p14.length ce1] 25) = v4 at *
                have C6d := Lib.hid (G4.out.cell C6b.out (by simp))
                have C13 := Lib.hid (g34.cell T13.out.cell (by simp))
                have C15 := Lib.hid T15.out.cell
                have I13b := Lib.hid (I13.out.grown g34)
                have I6d := Lib.hid (I6b.out.grown G4.out)
                have hrr : regB rs = true := by rw [HZ.out]; exact str_regm HM.out
                have c6 := fun w2 (g : v4.grownBy w2 none) => ireg_any d cd rs w2 (I6d.out.grown g)
                rw [hrr] at c6
                have c8 := fun w2 => istr_any 8 w2
                have c14 := fun w2 => istr_any 14 w2
                rw [HP8.out] at c8
                rw [HP14.out] at c14
                clear hO11 g11 ga g34 hrr
                have hgd : v4.grownBy v4.drew none := grownBy_drew (grownBy_refl _ _)
                have hb : v4.drew.cell? ⟨u2.heap.size, 0, none⟩ = some (.slice d rs.length cd) ∧ v4.drew.cell? ⟨x10.heap.size, 0, none⟩ = some (.slice e0 p8.length ce0) ∧ v4.drew.cell? ⟨x11.heap.size, 0, none⟩ = some (.slice e1 p14.length ce1) ∧ v4.grownBy v4.drew none := ⟨hgd.cell C6d.out (by simp), hgd.cell C13.out (by simp), hgd.cell C15.out (by simp), hgd⟩
                clear hgd
                go_wp2_with fail
                clear hv4
                refine wp_region_noPanic ?_
                refine wp_region_held_drew (S := fun w' => w'.cell? ⟨u2.heap.size, 0, none⟩ = some (.slice d rs.length cd) ∧ w'.cell? ⟨x10.heap.size, 0, none⟩ = some (.slice e0 p8.length ce0) ∧ w'.cell? ⟨x11.heap.size, 0, none⟩ = some (.slice e1 p14.length ce1) ∧ v4.grownBy w' none) (by kernel_rfl) hb (fun hH => ?_)
                refine take_an 0 123 (v := ?v288) rfl rfl (by kernel_rfl) (by kernel_rfl) (by kernel_rfl) (fun _ _ _ h => h) (by rfl) ?y288 hH ?r288
                case y288 => (rintro w ⟨p0, p1, p2, p3⟩; go_simp; try with_reducible rfl)
                simp only [Act.put, List.setIfInBounds_toArray, List.set_cons_zero, List.set_cons_succ]
                refine wpAnyH_ready (rs := [1]) (by kernel_rfl) (by simp) ?_
                refine AllReadyH.cons rfl (fun K hK => ?_) AllReadyH.nil
                go_simp
                refine (c6 _ hH.2.2.2).mono ?_
                rintro e x12 ⟨rfl, g12⟩
                clear c6
                go_wp2_with fail
                refine hK.out _ _ (held_3 hH g12) (fun k1 => ?_)
                clear hK K
                try simp only [Act.put, List.setIfInBounds_toArray, List.set_cons_zero, List.set_cons_succ]
                refine take_an 2 125 (v := ?v289) rfl rfl (by kernel_rfl) (by kernel_rfl) (by kernel_rfl) (fun _ _ _ h => h) (by rfl) ?y289 k1 ?r289
                case y289 => (rintro w ⟨p0, p1, p2, p3⟩; go_simp; try with_reducible rfl)
                simp only [Act.put, List.setIfInBounds_toArray, List.set_cons_zero, List.set_cons_succ]
                refine take_an 3 126 (v := ?v290) rfl rfl (by kernel_rfl) (by kernel_rfl) (by kernel_rfl) (fun _ _ _ h => h) (by rfl) ?y290 k1 ?r290
                case y290 => (rintro w ⟨p0, p1, p2, p3⟩; go_simp; try with_reducible rfl)
                simp only [Act.put, List.setIfInBounds_toArray, List.set_cons_zero, List.set_cons_succ]
                refine take_an 4 127 (v := ?v291) rfl rfl (by kernel_rfl) (by kernel_rfl) (by kernel_rfl) (fun _ _ _ h => h) (by rfl) ?y291 k1 ?r291
                case y291 => (rintro w ⟨p0, p1, p2, p3⟩; go_simp; try with_reducible rfl)
                simp only [Act.put, List.setIfInBounds_toArray, List.set_cons_zero, List.set_cons_succ]
                refine take_an 5 128 (v := ?v292) rfl rfl (by kernel_rfl) (by kernel_rfl) (by kernel_rfl) (fun _ _ _ h => h) (by rfl) ?y292 k1 ?r292
                case y292 => (rintro w ⟨p0, p1, p2, p3⟩; go_simp; try with_reducible rfl)
                simp only [Act.put, List.setIfInBounds_toArray, List.set_cons_zero, List.set_cons_succ]
                refine take_an 6 129 (v := ?v293) rfl rfl (by kernel_rfl) (by kernel_rfl) (by kernel_rfl) (fun _ _ _ h => h) (by rfl) ?y293 k1 ?r293
                case y293 => (rintro w ⟨p0, p1, p2, p3⟩; go_simp; try with_reducible rfl)
                simp only [Act.put, List.setIfInBounds_toArray, List.set_cons_zero, List.set_cons_succ]
                refine take_an 7 130 (v := ?v294) rfl rfl (by kernel_rfl) (by kernel_rfl) (by kernel_rfl) (fun _ _ _ h => h) (by rfl) ?y294 k1 ?r294
                case y294 => (rintro w ⟨p0, p1, p2, p3⟩; go_simp; try with_reducible rfl)
                simp only [Act.put, List.setIfInBounds_toArray, List.set_cons_zero, List.set_cons_succ]
                refine take_an 8 131 (v := ?v295) rfl rfl (by kernel_rfl) (by kernel_rfl) (by kernel_rfl) (fun _ _ _ h => h) (by rfl) ?y295 k1 ?r295
                case y295 => (rintro w ⟨p0, p1, p2, p3⟩; go_simp; try with_reducible rfl)
                simp only [Act.put, List.setIfInBounds_toArray, List.set_cons_zero, List.set_cons_succ]
                refine take_an 10 133 (v := ?v296) rfl rfl (by kernel_rfl) (by kernel_rfl) (by kernel_rfl) (fun _ _ _ h => h) (by rfl) ?y296 k1 ?r296
                case y296 => (rintro w ⟨p0, p1, p2, p3⟩; go_simp; try with_reducible rfl)
                simp only [Act.put, List.setIfInBounds_toArray, List.set_cons_zero, List.set_cons_succ]
                refine wpAnyH_ready (rs := [9]) (by kernel_rfl) (by simp) ?_
                refine AllReadyH.cons rfl (fun K hK => ?_) AllReadyH.nil
                go_simp
                refine (c8 _).mono ?_
                rintro e x13 ⟨f0, cf0, rfl, hO13, g13⟩
                have J13 := Lib.hid (hO13.at (by rw [← HP8.out, hl8.out]; unfold maxLen; omega))
                clear c8 hO13
                go_wp2_with fail
                refine hK.out _ _ (held_3 k1 g13) (fun k2 => ?_)
                clear hK K
                try simp only [Act.put, List.setIfInBounds_toArray, List.set_cons_zero, List.set_cons_succ]
                refine wpAnyH_ready (rs := [11]) (by kernel_rfl) (by simp) ?_
                refine AllReadyH.cons rfl (fun K hK => ?_) AllReadyH.nil
                go_simp
                have ce := sameT_any f0 e0 cf0 ce0 p8 p8 x13 J13.out (I13b.out.grown k2.2.2.2)
                rw [sameL_self] at ce
                refine ce.mono ?_
                rintro e x14 ⟨rfl, g14⟩
                clear ce
                go_wp2_with fail
                refine hK.out _ _ (held_3 k2 g14) (fun k3 => ?_)
                clear hK K
                try simp only [Act.put, List.setIfInBounds_toArray, List.set_cons_zero, List.set_cons_succ]
                refine take_an 12 135 (v := ?v297) rfl rfl (by kernel_rfl) (by kernel_rfl) (by kernel_rfl) (fun _ _ _ h => h) (by rfl) ?y297 k3 ?r297
                case y297 => (rintro w ⟨p0, p1, p2, p3⟩; go_simp; try with_reducible rfl)
                simp only [Act.put, List.setIfInBounds_toArray, List.set_cons_zero, List.set_cons_succ]
                refine take_an 13 136 (v := ?v298) rfl rfl (by kernel_rfl) (by kernel_rfl) (by kernel_rfl) (fun _ _ _ h => h) (by rfl) ?y298 k3 ?r298
                case y298 => (rintro w ⟨p0, p1, p2, p3⟩; go_simp; try with_reducible rfl)
                simp only [Act.put, List.setIfInBounds_toArray, List.set_cons_zero, List.set_cons_succ]
                refine take_an 15 138 (v := ?v299) rfl rfl (by kernel_rfl) (by kernel_rfl) (by kernel_rfl) (fun _ _ _ h => h) (by rfl) ?y299 k3 ?r299
                case y299 => (rintro w ⟨p0, p1, p2, p3⟩; go_simp; try with_reducible rfl)
                simp only [Act.put, List.setIfInBounds_toArray, List.set_cons_zero, List.set_cons_succ]
                refine wpAnyH_ready (rs := [14]) (by kernel_rfl) (by simp) ?_
                refine AllReadyH.cons rfl (fun K hK => ?_) AllReadyH.nil
                go_simp
                refine (c14 _).mono ?_
                rintro e x15 ⟨f1, cf1, rfl, hO15, g15⟩
                have J15 := Lib.hid (hO15.at (by rw [← HP14.out, hl14.out]; unfold maxLen; omega))
                clear c14 hO15
                go_wp2_with fail
                refine hK.out _ _ (held_3 k3 g15) (fun k4 => ?_)
                clear hK K
                try simp only [Act.put, List.setIfInBounds_toArray, List.set_cons_zero, List.set_cons_succ]
                refine wpAnyH_ready (rs := [16]) (by kernel_rfl) (by simp) ?_
                refine AllReadyH.cons rfl (fun K hK => ?_) AllReadyH.nil
                go_simp
                have ce := sameT_any f1 e1 cf1 ce1 p14 p14 x15 J15.out (I15.out.grown k4.2.2.2)
                rw [sameL_self] at ce
                refine ce.mono ?_
                rintro e x16 ⟨rfl, g16⟩
                clear ce
                go_wp2_with fail
                refine hK.out _ _ (held_3 k4 g16) (fun k5 => ?_)
                clear hK K
                try simp only [Act.put, List.setIfInBounds_toArray, List.set_cons_zero, List.set_cons_succ]
                refine take_an 17 140 (v := ?v300) rfl rfl (by kernel_rfl) (by kernel_rfl) (by kernel_rfl) (fun _ _ _ h => h) (by rfl) ?y300 k5 ?r300
                case y300 => (rintro w ⟨p0, p1, p2, p3⟩; go_simp; try with_reducible rfl)
                simp only [Act.put, List.setIfInBounds_toArray, List.set_cons_zero, List.set_cons_succ]
                refine take_an 18 4 (v := ?v301) rfl rfl (by kernel_rfl) (by kernel_rfl) (by kernel_rfl) (fun _ _ _ h => h) (by rfl) ?y301 k5 ?r301
                case y301 => (rintro w ⟨p0, p1, p2, p3⟩; go_simp; try with_reducible rfl)
                simp only [Act.put, List.setIfInBounds_toArray, List.set_cons_zero, List.set_cons_succ]
                refine wpAnyH_done (by kernel_rfl) ?_ _
                refine NoPanic.normal ?_
                go_wp2_with fail
                go_ret
                exact ⟨rfl, below_of (grownBy_trans G2.out (grownBy_trans G4.out k5.2.2.2))⟩

end Go.Proofs.Ytbhfbpmfbknalaa
