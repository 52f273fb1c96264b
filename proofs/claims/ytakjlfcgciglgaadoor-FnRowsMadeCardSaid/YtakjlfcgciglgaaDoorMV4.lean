/-
  The walk of FnRowsMade: each row that is made may be said, and there are as many as may be said.
-/
import Derived.Test.YtakjlfcgciglgaaDoorMEq
import Derived.Test.YtakjlfcgciglgaaDoorNI
import Derived.Test.YtakjlfcgciglgaaDoorDraw4
namespace Go.Proofs.YtakjlfcgciglgaaDoor
open Go.RowKit

theorem DrawRowsMade_any (a : Option Addr) (len cap : Nat) (zs : List Int) (w : World) (h : IsRow .u8 w a len cap zs) :
    Calls Tryd.prog 4 #[.slice a len cap] w fun e w' => ∃ n : Int, e = .returned (.int .i64 n) ∧ 0 ≤ n ∧ n ≤ 5 ∧ w.grownBy w' none := by
  go_enter Tryd.func4, Tryd.ntmps4
  go_wp2_with fail
  refine (open_draw a len cap zs _ h).mono ?_
  rintro e w1 ⟨rfl, hr1, hg1⟩
  clear h
  have hlt := hr1.lt
  go_wp2_with fail
  refine (pick_any _ _ _ _ (hr1.alloc _) (by omega)).mono ?_
  rintro e w2 ⟨k, rfl, hk0, hk1, hr2, hg2⟩
  have hb := hg2.block w1.heap.size (by simp) (by simp; omega)
  have hbn : (w1.alloc (.cells #[.int .i64 1, .int .i64 2, .int .i64 3, .int .i64 2, .int .i64 3, .int .i64 4, .int .i64 5, .int .i64 0] 3)).heap[w1.heap.size]? = some (.cells #[.int .i64 1, .int .i64 2, .int .i64 3, .int .i64 2, .int .i64 3, .int .i64 4, .int .i64 5, .int .i64 0] 3) := heap_alloc_new w1 _
  have hb' := hb.trans hbn
  have hc0 : w2.cell? ⟨w1.heap.size, 0, none⟩ = some (.int .i64 1) := by simp [World.cell?, hb']
  have hc1 : w2.cell? ⟨w1.heap.size, 1, none⟩ = some (.int .i64 2) := by simp [World.cell?, hb']
  have hc2 : w2.cell? ⟨w1.heap.size, 2, none⟩ = some (.int .i64 3) := by simp [World.cell?, hb']
  have hc3 : w2.cell? ⟨w1.heap.size, 3, none⟩ = some (.int .i64 2) := by simp [World.cell?, hb']
  have hc4 : w2.cell? ⟨w1.heap.size, 4, none⟩ = some (.int .i64 3) := by simp [World.cell?, hb']
  have hc5 : w2.cell? ⟨w1.heap.size, 5, none⟩ = some (.int .i64 4) := by simp [World.cell?, hb']
  have hc6 : w2.cell? ⟨w1.heap.size, 6, none⟩ = some (.int .i64 5) := by simp [World.cell?, hb']
  have hc7 : w2.cell? ⟨w1.heap.size, 7, none⟩ = some (.int .i64 0) := by simp [World.cell?, hb']
  have hgg := grownBy_own hg1 (grownBy_trans (World.grownBy_alloc w1 _ _) hg2)
  clear hb hbn hb' hg2 hg1 hr2
  obtain rfl | rfl | rfl | rfl | rfl | rfl | rfl | rfl : k = 0 ∨ k = 1 ∨ k = 2 ∨ k = 3 ∨ k = 4 ∨ k = 5 ∨ k = 6 ∨ k = 7 := by omega
  all_goals
    go_wp2
    go_ret
    exact ⟨_, rfl, by omega, by omega, hgg⟩

theorem out_count : ([1, 2, 3, 4].all fun n => (outTo n ((n + 1) ^ (n + 1))).length == cntS n (n + 1) && decide (1 ≤ cntS n (n + 1))) = true := by decide +kernel
theorem out_count_at {n : Nat} (h : 1 ≤ n ∧ n ≤ 4) : (outTo n ((n + 1) ^ (n + 1))).length = cntS n (n + 1) ∧ 1 ≤ cntS n (n + 1) := by
  have k := List.all_eq_true.1 out_count n (by simp; omega)
  simp only [Bool.and_eq_true, beq_iff_eq, decide_eq_true_eq] at k
  exact k
theorem out_say {n c : Nat} {r : List Nat} (h : r ∈ outTo n c) : sayR n r = true := by
  unfold outTo at h
  obtain ⟨x, hx, rfl⟩ := List.mem_map.1 h
  exact (List.mem_filter.1 hx).2
theorem sayB_row {N : Nat} (hN : 1 ≤ N ∧ N ≤ 6) {r : List Nat} (h : sayR N r = true) : sayB N (rI r) = true := by
  obtain ⟨hl, hv⟩ := sayR_of h
  refine sayB_mk (by omega) (by rw [rI_len]; omega) fun v hv' => ?_
  rw [rI_len] at hv'
  obtain ⟨h1, h2⟩ := hv v (by omega)
  unfold sayAt
  rw [rI_at, inB_t (by omega), Int.toNat_natCast, Bool.true_and, beq_iff_eq]
  have := Nat.mod_eq_zero_of_dvd h2
  omega

set_option maxRecDepth 100000 in
set_option maxHeartbeats 4000000 in
theorem FnRowsMade_walk (a0 : Option Addr) (len0 cap0 : Nat) (z0 : List Int) (w : World) (w0 : IsRow .u8 w a0 len0 cap0 z0) (hT : TzAt w) :
    Calls Tryd.prog 3 #[.slice a0 len0 cap0] w fun e w' => e = .returned (.bool true) ∧ Below w.heap.size w w' := by
  have HT := Lib.hid hT
  clear hT
  by_cases hl : (1048576 : Int) < (len0 : Int)
  · clear w0
    go_enter Tryd.func3, Tryd.ntmps3
    go_wp2_with fail
    go_ret
    exact ⟨rfl, Below.refl _ _⟩
  · go_enter Tryd.func3, Tryd.ntmps3
    go_wp2_with fail
    refine (DrawRowsMade_any _ _ _ _ _ w0).mono ?_
    rintro e w1 ⟨n, rfl, n0, n5, g1⟩
    clear w0
    have ci := fun w => irows_all n w
    have cs := fun w => srows_all n w
    have hNn := Nn_le n
    have hlen := rowsM_len n
    have hno : Hid (inB n 1 4 = false → rowsM n = []) := rowsM_f
    have hyes : Hid (inB n 1 4 = true → rowsM n = outTo n.toNat ((n.toNat + 1) ^ (n.toNat + 1)) ∧ Nn n = n.toNat) := fun h => by
      have h4 := inB_of h
      obtain ⟨N, rfl⟩ : ∃ N : Nat, n = N := ⟨n.toNat, by omega⟩
      exact ⟨rowsM_t (by omega), if_pos h⟩
    generalize rowsM n = rs at *
    generalize Nn n = N at *
    have Ci := Lib.hid ci
    have Cs := Lib.hid cs
    clear ci cs
    go_wp2_with fail
    refine (Ci.out _).mono ?_
    rintro e w2 ⟨v2, rfl, l2, g2⟩
    obtain ⟨a2, c2, rfl⟩ := l2.list.shape
    have L2 := Lib.hid l2.list
    clear l2
    go_wp2_with fail
    refine (Cs.out _).mono ?_
    rintro e w3 ⟨v3, rfl, l3, g3⟩
    have L3 := Lib.hid l3
    clear l3
    have c4 := sameRows_any N hNn _ _ (.slice a2 rs.length c2) v3 rs (by omega) w3 (L2.out.kept g3) L3.out
    cases hi : inB n 1 4
    · have hrs := hno.out hi
      subst hrs
      have hn := inB_not hi
      clear hno hyes hi
      by_cases hn1 : n < 1
      · go_wp2_with fail
        refine c4.mono ?_
        rintro e w4 ⟨rfl, g4⟩
        clear c4
        go_wp2_with (go_at_call 8; refine (alive_any _).mono ?_; rintro e w' ⟨rfl, rfl⟩)
        go_ret
        exact ⟨rfl, below_of (grownBy_trans (grownBy_trans g1 g2) (grownBy_trans g3 g4))⟩
      · have hn5 : (4 : Int) < n := by omega
        go_wp2_with fail
        refine c4.mono ?_
        rintro e w4 ⟨rfl, g4⟩
        clear c4
        go_wp2_with (go_at_call 8; refine (alive_any _).mono ?_; rintro e w' ⟨rfl, rfl⟩)
        go_ret
        exact ⟨rfl, below_of (grownBy_trans (grownBy_trans g1 g2) (grownBy_trans g3 g4))⟩
    · have h4 := inB_of hi
      obtain ⟨hrs, hNe⟩ := hyes.out hi
      obtain ⟨M, rfl⟩ : ∃ M : Nat, n = M := ⟨n.toNat, by omega⟩
      rw [Int.toNat_natCast] at hrs hNe
      subst hNe
      have hM : 1 ≤ N ∧ N ≤ 4 := by omega
      obtain ⟨hcnt, hpos⟩ := out_count_at hM
      have hsayR : Hid (∀ k, k < rs.length → sayR N (rs.getD k []) = true) := fun k hk => by
        refine out_say (c := (N + 1) ^ (N + 1)) ?_
        rw [← hrs, List.getD_eq_getElem?_getD, List.getElem?_eq_getElem hk, Option.getD_some]
        exact List.getElem_mem hk
      have hLn : rs.length = cntS N (N + 1) := by rw [hrs]; exact hcnt
      have hsc : scnI (N : Int) = (rs.length : Int) := by rw [scnI_t (by omega), hLn]
      have hpos2 : 0 < rs.length := by omega
      have hne0 : ((rs.length : Int) == 0) = false := by rw [beq_eq_false_iff_ne]; omega
      have Hsc := Lib.hid hsc
      clear hno hyes hi hrs hcnt hpos hLn hsc h4
      go_wp2_with fail
      refine c4.mono ?_
      rintro e w4 ⟨rfl, g4⟩
      clear c4
      have G4 := Lib.hid (grownBy_trans (grownBy_trans g1 g2) (grownBy_trans g3 g4))
      have L4 := Lib.hid ((L2.out.kept g3).kept g4)
      clear g1 g2 g3 g4
      go_wp2_with fail
      clear hne0
      go_loopw [5] (fun i wr => ∃ k : Nat, k ≤ rs.length ∧ i = .int .i64 k ∧ w4.grownBy wr none) (fun i _ => rs.length - (RowKit.intOf i).toNat)
      case atStart => exact ⟨0, by omega, rfl, grownBy_refl _ _⟩
      case round =>
        obtain ⟨k, hk, rfl, hgr⟩ := hrel
        by_cases hlt : k < rs.length
        · obtain ⟨g, c, gi, ci, he, hc1, hi1⟩ := (L4.out.kept hgr).at (by omega) hlt
          cases he
          have sk := hsayR.out k hlt
          have cy := isay_any N (some ⟨gi, 0, none⟩) ci (rI (rs.getD k [])) wr (HT.out.grown (grownBy_trans G4.out hgr)) hi1
          rw [sayB_row (by omega) sk, rI_len, (sayR_of sk).1] at cy
          have k0' : (0 : Int) ≤ (k : Int) := by omega
          have k1' : (k : Int) < (rs.length : Int) := by omega
          clear hi1 sk
          go_wp2_with (go_at_call 9; refine cy.mono ?_; rintro e w5 ⟨rfl, g5⟩)
          go_roundw
          case rel => exact ⟨k + 1, by omega, by go_num, grownBy_trans hgr g5⟩
          case measure => simp [RowKit.intOf]; omega
        · obtain rfl : k = rs.length := by omega
          have cc := iscnt_any N wr (HT.out.grown (grownBy_trans G4.out hgr))
          rw [Hsc.out] at cc
          go_wp2_with (go_at_call 10; refine cc.mono ?_; rintro e w5 ⟨rfl, g5⟩)
          go_ret
          exact ⟨rfl, below_of (grownBy_trans G4.out (grownBy_trans hgr g5))⟩

end Go.Proofs.YtakjlfcgciglgaaDoor
