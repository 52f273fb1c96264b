/-
  The exact law of PutInto.
-/
import Derived.Test.YtbhfbpmfbknalaaTXm
import Derived.Deep.CutRange
namespace Go.Proofs.Ytbhfbpmfbknalaa
open Go.RowKit

theorem box_3 (w : World) (t : TypeId) (x y z : Value) :
    let wb := ((w.alloc (.cells #[x] t)).alloc (.cells #[y] t)).alloc (.cells #[z] t)
    wb.cell? ⟨w.heap.size, 0, none⟩ = some x ∧ wb.cell? ⟨w.heap.size + 1, 0, none⟩ = some y ∧ wb.cell? ⟨w.heap.size + 1 + 1, 0, none⟩ = some z ∧ w.grownBy wb none := by
  intro wb
  have g1 : w.grownBy (w.alloc (.cells #[x] t)) none := World.grownBy_alloc _ _ none
  have b1 := cell_new1 w x t
  have s1 : (w.alloc (.cells #[x] t)).heap.size = w.heap.size + 1 := by simp
  generalize hw1 : w.alloc (.cells #[x] t) = w1 at *
  have g2 : w1.grownBy (w1.alloc (.cells #[y] t)) none := World.grownBy_alloc _ _ none
  have b2 := cell_new1 w1 y t
  have s2 : (w1.alloc (.cells #[y] t)).heap.size = w.heap.size + 1 + 1 := by simp [s1]
  rw [s1] at b2
  generalize hw2 : w1.alloc (.cells #[y] t) = w2 at *
  have g3 : w2.grownBy (w2.alloc (.cells #[z] t)) none := World.grownBy_alloc _ _ none
  have b3 := cell_new1 w2 z t
  rw [s2] at b3
  have hwb : wb = w2.alloc (.cells #[z] t) := by rw [← hw2, ← hw1]
  rw [hwb]
  exact ⟨g3.cell (g2.cell b1 (by simp)) (by simp), g3.cell b2 (by simp), b3, grownBy_trans (grownBy_trans g1 g2) g3⟩

set_option maxHeartbeats 16000000 in
theorem FnExactPutInto_walk (a0 : Option Addr) (len0 cap0 : Nat) (z0 : List Int) (a1 : Option Addr) (len1 cap1 : Nat) (z1 : List Int) (a2 : Option Addr) (len2 cap2 : Nat) (z2 : List Int) (w : World) (w0 : IsRow .i64 w a0 len0 cap0 z0) (w1 : IsRow .i64 w a1 len1 cap1 z1) (w2 : IsRow .i64 w a2 len2 cap2 z2) :
    Calls Try.prog 13 #[.agg #[.slice a0 len0 cap0], .agg #[.slice a1 len1 cap1], .agg #[.slice a2 len2 cap2]] w fun e w' => e = .returned (.bool true) ∧ Below w.heap.size w w' := by
  obtain ⟨xs, rfl, hX⟩ := row_ints w0
  obtain ⟨ys, rfl, hY⟩ := row_ints w1
  obtain ⟨zs, rfl, hZ⟩ := row_ints w2
  clear w0 w1 w2
  obtain ⟨k0, k1, k2, g0⟩ := box_3 w 43 (.slice a0 xs.length cap0) (.slice a1 ys.length cap1) (.slice a2 zs.length cap2)
  have HSZ : Hid (w.heap.size < (((w.alloc (.cells #[.slice a0 xs.length cap0] 43)).alloc (.cells #[.slice a1 ys.length cap1] 43)).alloc (.cells #[.slice a2 zs.length cap2] 43)).heap.size ∧ w.heap.size + 1 < (((w.alloc (.cells #[.slice a0 xs.length cap0] 43)).alloc (.cells #[.slice a1 ys.length cap1] 43)).alloc (.cells #[.slice a2 zs.length cap2] 43)).heap.size ∧ w.heap.size + 1 + 1 < (((w.alloc (.cells #[.slice a0 xs.length cap0] 43)).alloc (.cells #[.slice a1 ys.length cap1] 43)).alloc (.cells #[.slice a2 zs.length cap2] 43)).heap.size) := Lib.hid (by simp; omega)
  generalize hv0 : ((w.alloc (.cells #[.slice a0 xs.length cap0] 43)).alloc (.cells #[.slice a1 ys.length cap1] 43)).alloc (.cells #[.slice a2 zs.length cap2] 43) = v0 at *
  have X0 := Lib.hid (hX.grown g0)
  have Y0 := Lib.hid (hY.grown g0)
  have Z0 := Lib.hid (hZ.grown g0)
  have mx := Lib.hid hX.1
  have my := Lib.hid hY.1
  have mz := Lib.hid hZ.1
  have C0 := Lib.hid k0
  have C1 := Lib.hid k1
  have C2 := Lib.hid k2
  have G0 := Lib.hid g0
  clear hX hY hZ g0 k1 k2
  obtain ⟨l1, hl1⟩ : ∃ l : Int, l = 1048576 - (xs.length : Int) := ⟨_, rfl⟩
  obtain ⟨l2, hl2⟩ : ∃ l : Int, l = l1 - (ys.length : Int) := ⟨_, rfl⟩
  obtain ⟨l3, hl3⟩ : ∃ l : Int, l = l2 - (zs.length : Int) := ⟨_, rfl⟩
  have HL1 := Lib.hid hl1
  have HL2 := Lib.hid hl2
  have HL3 := Lib.hid hl3
  clear hl1 hl2 hl3
  go_enter Try.func13, Try.ntmps13
  go_wp2_with fail
  clear hv0 k0
  by_cases h1 : (xs.length : Int) ≤ 1048576
  case neg =>
    refine (szT_no a0 xs.length cap0 1048576 mx.out (by omega) h1 _).mono ?_
    rintro e wu1 ⟨rfl, g1⟩
    clear h1
    go_wp2_with fail
    go_ret
    exact ⟨rfl, below_of (grownBy_trans G0.out g1)⟩
  have cz := szT_yes a0 xs.length cap0 1048576 mx.out (by omega) h1 v0
  rw [← HL1.out] at cz
  have p1 : Hid (0 ≤ l1 ∧ l1 ≤ 1048576) := by unfold Hid; have := HL1.out; omega
  have q1 : ¬ (l1 < 0) := by have := p1.out; omega
  clear h1
  refine cz.mono ?_
  rintro e wu1 ⟨rfl, g1⟩
  have n1 := g1.cell C1.out (by simp)
  clear cz
  go_wp2_with fail
  clear n1 q1
  by_cases h2 : (ys.length : Int) ≤ l1
  case neg =>
    refine (szT_no a1 ys.length cap1 l1 my.out p1.out h2 _).mono ?_
    rintro e wu2 ⟨rfl, g2⟩
    clear h2
    go_wp2_with fail
    go_ret
    exact ⟨rfl, below_of (grownBy_trans G0.out (grownBy_trans g1 g2))⟩
  have cz := szT_yes a1 ys.length cap1 l1 my.out p1.out h2 wu1
  rw [← HL2.out] at cz
  have p2 : Hid (0 ≤ l2 ∧ l2 ≤ 1048576) := by unfold Hid; have := HL2.out; have := p1.out; omega
  have q2 : ¬ (l2 < 0) := by have := p2.out; omega
  clear h2
  refine cz.mono ?_
  rintro e wu2 ⟨rfl, g2⟩
  have g12 := grownBy_trans g1 g2
  have n2 := g12.cell C2.out (by simp)
  clear cz g1 g2
  go_wp2_with fail
  clear n2 q2
  by_cases h3 : (zs.length : Int) ≤ l2
  case neg =>
    refine (szT_no a2 zs.length cap2 l2 mz.out p2.out h3 _).mono ?_
    rintro e wu3 ⟨rfl, g3⟩
    clear h3
    go_wp2_with fail
    go_ret
    exact ⟨rfl, below_of (grownBy_trans G0.out (grownBy_trans g12 g3))⟩
  have cz := szT_yes a2 zs.length cap2 l2 mz.out p2.out h3 wu2
  rw [← HL3.out] at cz
  have q3 : ¬ (l3 < 0) := by have := HL3.out; omega
  have hsum : Hid (xs.length + ys.length + zs.length ≤ 1048576) := by unfold Hid; have := HL1.out; have := HL2.out; omega
  clear h3
  refine cz.mono ?_
  rintro e wu3 ⟨rfl, g3⟩
  have G3 := Lib.hid (grownBy_trans g12 g3)
  clear cz g12 g3
  have XB := X0
  have YB := Y0
  have ZB := Z0
  have CB0 := C0
  have CB1 := C1
  have CB2 := C2
  have hs0 : Hid (w.heap.size < v0.heap.size) := Lib.hid HSZ.out.1
  have hs1 : Hid (w.heap.size + 1 < v0.heap.size) := Lib.hid HSZ.out.2.1
  have hs2 : Hid (w.heap.size + 1 + 1 < v0.heap.size) := Lib.hid HSZ.out.2.2
  obtain ⟨rs, hrs⟩ : ∃ rs, putR xs ys zs = rs := ⟨_, rfl⟩
  have HRS := Lib.hid hrs
  have hrl : Hid (rs.length ≤ 9) := Lib.hid (by
    rw [← hrs]
    rcases put_facts xs ys zs with h | ⟨h, _⟩ <;> omega)
  clear hrs
  have hgd := grownBy_drew G3.out
  have hb : wu3.drew.cell? ⟨w.heap.size, 0, none⟩ = some (.slice a0 xs.length cap0) ∧ wu3.drew.cell? ⟨w.heap.size + 1, 0, none⟩ = some (.slice a1 ys.length cap1) ∧ wu3.drew.cell? ⟨w.heap.size + 1 + 1, 0, none⟩ = some (.slice a2 zs.length cap2) ∧ v0.grownBy wu3.drew none := ⟨hgd.cell CB0.out (by simp), hgd.cell CB1.out (by simp), hgd.cell CB2.out (by simp), hgd⟩
  clear hgd
  go_wp2_with fail
  clear q3
  go_cut [8] from 32 to 38 (fun s8 wc => CutR rs v0 s8 wc)
  case first =>
    refine wp_region_noPanic ?_
    refine wp_region_held_drew (S := fun w' => w'.cell? ⟨w.heap.size, 0, none⟩ = some (.slice a0 xs.length cap0) ∧ w'.cell? ⟨w.heap.size + 1, 0, none⟩ = some (.slice a1 ys.length cap1) ∧ w'.cell? ⟨w.heap.size + 1 + 1, 0, none⟩ = some (.slice a2 zs.length cap2) ∧ v0.grownBy w' none) (by kernel_rfl) hb (fun hH => ?_)
    clear hb
    generalize wu3.drew = ud at hH ⊢
    refine take_an 0 32 (v := ?v1) rfl rfl (by kernel_rfl) (by kernel_rfl) (by kernel_rfl) (fun _ _ _ h => h) (by rfl) ?y1 hH ?r1
    case y1 => (rintro w ⟨p0, p1, p2, p3⟩; go_simp; try with_reducible rfl)
    simp only [Act.put, List.setIfInBounds_toArray, List.set_cons_zero, List.set_cons_succ]
    refine take_an 2 34 (v := ?v2) rfl rfl (by kernel_rfl) (by kernel_rfl) (by kernel_rfl) (fun _ _ _ h => h) (by rfl) ?y2 hH ?r2
    case y2 => (rintro w ⟨p0, p1, p2, p3⟩; go_simp; try with_reducible rfl)
    simp only [Act.put, List.setIfInBounds_toArray, List.set_cons_zero, List.set_cons_succ]
    refine take_an 4 36 (v := ?v3) rfl rfl (by kernel_rfl) (by kernel_rfl) (by kernel_rfl) (fun _ _ _ h => h) (by rfl) ?y3 hH ?r3
    case y3 => (rintro w ⟨p0, p1, p2, p3⟩; go_simp; try with_reducible rfl)
    simp only [Act.put, List.setIfInBounds_toArray, List.set_cons_zero, List.set_cons_succ]
    refine wpAnyH_ready (rs := [1, 7]) (by kernel_rfl) (by simp) ?_
    refine AllReadyH.cons rfl (fun K hK => ?_) (AllReadyH.cons rfl (fun K hK => ?_) AllReadyH.nil)
    · go_simp
      refine (toT_any a0 cap0 xs (by have := hsum.out; omega) _ (XB.out.grown hH.2.2.2)).mono ?_
      rintro e y1 ⟨b1, c1, rfl, ho1, g1⟩
      have I1 := Lib.hid (ho1.at mx.out)
      clear ho1
      go_wp2_with fail
      refine hK.out _ _ (held_3x hH g1) (fun h1 => ?_)
      clear hK K
      try simp only [Act.put, List.setIfInBounds_toArray, List.set_cons_zero, List.set_cons_succ]
      refine wpAnyH_ready (rs := [3, 7]) (by kernel_rfl) (by simp) ?_
      refine AllReadyH.cons rfl (fun K hK => ?_) (AllReadyH.cons rfl (fun K hK => ?_) AllReadyH.nil)
      · go_simp
        refine (toT_any a1 cap1 ys (by have := hsum.out; omega) _ (YB.out.grown h1.2.2.2)).mono ?_
        rintro e y2 ⟨b2, c2, rfl, ho2, g2⟩
        have I1_2 := Lib.hid (I1.out.grown g2)
        have I2 := Lib.hid (ho2.at my.out)
        clear ho2
        go_wp2_with fail
        refine hK.out _ _ (held_3x h1 g2) (fun h2 => ?_)
        clear hK K
        try simp only [Act.put, List.setIfInBounds_toArray, List.set_cons_zero, List.set_cons_succ]
        refine wpAnyH_ready (rs := [5, 7]) (by kernel_rfl) (by simp) ?_
        refine AllReadyH.cons rfl (fun K hK => ?_) (AllReadyH.cons rfl (fun K hK => ?_) AllReadyH.nil)
        · go_simp
          refine (toT_any a2 cap2 zs (by have := hsum.out; omega) _ (ZB.out.grown h2.2.2.2)).mono ?_
          rintro e y3 ⟨b3, c3, rfl, ho3, g3⟩
          have I1_3 := Lib.hid (I1_2.out.grown g3)
          have I2_3 := Lib.hid (I2.out.grown g3)
          have I3 := Lib.hid (ho3.at mz.out)
          clear ho3
          go_wp2_with fail
          refine hK.out _ _ (held_3x h2 g3) (fun h3 => ?_)
          clear hK K
          try simp only [Act.put, List.setIfInBounds_toArray, List.set_cons_zero, List.set_cons_succ]
          refine wpAnyH_ready (rs := [6, 7]) (by kernel_rfl) (by simp) ?_
          refine AllReadyH.cons rfl (fun K hK => ?_) (AllReadyH.cons rfl (fun K hK => ?_) AllReadyH.nil)
          · go_simp
            have hvb := Lib.hid (h3.2.2.2.size)
            have cp := sput_any b1 b2 b3 c1 c2 c3 xs ys zs _ I1_3.out I2_3.out I3.out
            rw [HRS.out] at cp
            refine cp.mono ?_
            rintro e y4 ⟨b4, c4, rfl, ho4, g4⟩
            have HO := Lib.hid ho4
            clear ho4 cp
            go_wp2_with fail
            refine hK.out _ _ (held_3x h3 g4) (fun h4 => ?_)
            clear hK K
            try simp only [Act.put, List.setIfInBounds_toArray, List.set_cons_zero, List.set_cons_succ]
            refine wpAnyH_ready (rs := [7]) (by kernel_rfl) (by simp) ?_
            refine AllReadyH.cons rfl (fun K hK => ?_) AllReadyH.nil
            have ga := World.grownBy_alloc y4 (.cells #[.slice none 0 0] 25) none
            have T_5 := Lib.hid (T1.new y4 (.slice none 0 0))
            have hB5 := Lib.hid (h4.2.2.2.size)
            have hne : Hid (∀ gq, (Value.slice b4 rs.length c4).ownBlock = some gq → gq ≠ y4.heap.size) := fun gq ee => by have := World.ownsRow.lt HO.out _ ee; omega
            have HO := Lib.hid (HO.out.kept ga)
            go_simp
            generalize hya : y4.alloc (.cells #[.slice none 0 0] 25) = y5 at *
            clear hya
            refine hK.out _ _ (held_3x h4 ga) (fun h5 => ?_)
            clear hK K
            try simp only [Act.put, List.setIfInBounds_toArray, List.set_cons_zero, List.set_cons_succ]
            refine wpAnyH_ready (rs := [8]) (by kernel_rfl) (by simp) ?_
            refine AllReadyH.cons rfl (fun K hK => ?_) AllReadyH.nil
            have n8 := T_5.out.cell
            have d8 := T_5.out.free
            have R := Lib.hid (put_fin T_5.out HO.out hne.out hvb.out hB5.out h5.2.2.2)
            have hs := held_set (v := .slice b4 rs.length c4) h5 hB5.out hs0.out hs1.out hs2.out
            go_simp
            refine hK.out _ _ hs (fun hz => ?_)
            clear hK K n8 d8 hs
            try simp only [Act.put, List.setIfInBounds_toArray, List.set_cons_zero, List.set_cons_succ]
            refine wpAnyH_done (by kernel_rfl) ?_ _
            refine NoPanic.normal ?_
            go_wp2_with fail
            go_meet
            case rel => exact R.out
          · have ga := World.grownBy_alloc y3 (.cells #[.slice none 0 0] 25) none
            have T_6 := Lib.hid (T1.new y3 (.slice none 0 0))
            have hB6 := Lib.hid (h3.2.2.2.size)
            have I1_6 := Lib.hid (I1_3.out.grown ga)
            have I2_6 := Lib.hid (I2_3.out.grown ga)
            have I3_6 := Lib.hid (I3.out.grown ga)
            go_simp
            generalize hya : y3.alloc (.cells #[.slice none 0 0] 25) = y6 at *
            clear hya
            refine hK.out _ _ (held_3x h3 ga) (fun h6 => ?_)
            clear hK K
            try simp only [Act.put, List.setIfInBounds_toArray, List.set_cons_zero, List.set_cons_succ]
            refine wpAnyH_ready (rs := [6]) (by kernel_rfl) (by simp) ?_
            refine AllReadyH.cons rfl (fun K hK => ?_) AllReadyH.nil
            go_simp
            have hvb := Lib.hid (h6.2.2.2.size)
            have cp := sput_any b1 b2 b3 c1 c2 c3 xs ys zs _ I1_6.out I2_6.out I3_6.out
            rw [HRS.out] at cp
            refine cp.mono ?_
            rintro e y7 ⟨b7, c7, rfl, ho7, g7⟩
            have hne : Hid (∀ gq, (Value.slice b7 rs.length c7).ownBlock = some gq → gq ≠ y3.heap.size) := fun gq ee => by have := World.ownsRow.lt ho7 _ ee; have := T_6.out.lt; omega
            have HO := Lib.hid ho7
            clear ho7 cp
            have T_7 := Lib.hid (T_6.out.grown g7)
            go_wp2_with fail
            refine hK.out _ _ (held_3x h6 g7) (fun h7 => ?_)
            clear hK K
            try simp only [Act.put, List.setIfInBounds_toArray, List.set_cons_zero, List.set_cons_succ]
            refine wpAnyH_ready (rs := [8]) (by kernel_rfl) (by simp) ?_
            refine AllReadyH.cons rfl (fun K hK => ?_) AllReadyH.nil
            have n8 := T_7.out.cell
            have d8 := T_7.out.free
            have R := Lib.hid (put_fin T_7.out HO.out hne.out hvb.out hB6.out h7.2.2.2)
            have hs := held_set (v := .slice b7 rs.length c7) h7 hB6.out hs0.out hs1.out hs2.out
            go_simp
            refine hK.out _ _ hs (fun hz => ?_)
            clear hK K n8 d8 hs
            try simp only [Act.put, List.setIfInBounds_toArray, List.set_cons_zero, List.set_cons_succ]
            refine wpAnyH_done (by kernel_rfl) ?_ _
            refine NoPanic.normal ?_
            go_wp2_with fail
            go_meet
            case rel => exact R.out
        · have ga := World.grownBy_alloc y2 (.cells #[.slice none 0 0] 25) none
          have T_8 := Lib.hid (T1.new y2 (.slice none 0 0))
          have hB8 := Lib.hid (h2.2.2.2.size)
          have I1_8 := Lib.hid (I1_2.out.grown ga)
          have I2_8 := Lib.hid (I2.out.grown ga)
          go_simp
          generalize hya : y2.alloc (.cells #[.slice none 0 0] 25) = y8 at *
          clear hya
          refine hK.out _ _ (held_3x h2 ga) (fun h8 => ?_)
          clear hK K
          try simp only [Act.put, List.setIfInBounds_toArray, List.set_cons_zero, List.set_cons_succ]
          refine wpAnyH_ready (rs := [5]) (by kernel_rfl) (by simp) ?_
          refine AllReadyH.cons rfl (fun K hK => ?_) AllReadyH.nil
          go_simp
          refine (toT_any a2 cap2 zs (by have := hsum.out; omega) _ (ZB.out.grown h8.2.2.2)).mono ?_
          rintro e y9 ⟨b9, c9, rfl, ho9, g9⟩
          have I1_9 := Lib.hid (I1_8.out.grown g9)
          have I2_9 := Lib.hid (I2_8.out.grown g9)
          have I9 := Lib.hid (ho9.at mz.out)
          clear ho9
          have T_9 := Lib.hid (T_8.out.grown g9)
          go_wp2_with fail
          refine hK.out _ _ (held_3x h8 g9) (fun h9 => ?_)
          clear hK K
          try simp only [Act.put, List.setIfInBounds_toArray, List.set_cons_zero, List.set_cons_succ]
          refine wpAnyH_ready (rs := [6]) (by kernel_rfl) (by simp) ?_
          refine AllReadyH.cons rfl (fun K hK => ?_) AllReadyH.nil
          go_simp
          have hvb := Lib.hid (h9.2.2.2.size)
          have cp := sput_any b1 b2 b9 c1 c2 c9 xs ys zs _ I1_9.out I2_9.out I9.out
          rw [HRS.out] at cp
          refine cp.mono ?_
          rintro e y10 ⟨b10, c10, rfl, ho10, g10⟩
          have hne : Hid (∀ gq, (Value.slice b10 rs.length c10).ownBlock = some gq → gq ≠ y2.heap.size) := fun gq ee => by have := World.ownsRow.lt ho10 _ ee; have := T_9.out.lt; omega
          have HO := Lib.hid ho10
          clear ho10 cp
          have T_10 := Lib.hid (T_9.out.grown g10)
          go_wp2_with fail
          refine hK.out _ _ (held_3x h9 g10) (fun h10 => ?_)
          clear hK K
          try simp only [Act.put, List.setIfInBounds_toArray, List.set_cons_zero, List.set_cons_succ]
          refine wpAnyH_ready (rs := [8]) (by kernel_rfl) (by simp) ?_
          refine AllReadyH.cons rfl (fun K hK => ?_) AllReadyH.nil
          have n8 := T_10.out.cell
          have d8 := T_10.out.free
          have R := Lib.hid (put_fin T_10.out HO.out hne.out hvb.out hB8.out h10.2.2.2)
          have hs := held_set (v := .slice b10 rs.length c10) h10 hB8.out hs0.out hs1.out hs2.out
          go_simp
          refine hK.out _ _ hs (fun hz => ?_)
          clear hK K n8 d8 hs
          try simp only [Act.put, List.setIfInBounds_toArray, List.set_cons_zero, List.set_cons_succ]
          refine wpAnyH_done (by kernel_rfl) ?_ _
          refine NoPanic.normal ?_
          go_wp2_with fail
          go_meet
          case rel => exact R.out
      · have ga := World.grownBy_alloc y1 (.cells #[.slice none 0 0] 25) none
        have T_11 := Lib.hid (T1.new y1 (.slice none 0 0))
        have hB11 := Lib.hid (h1.2.2.2.size)
        have I1_11 := Lib.hid (I1.out.grown ga)
        go_simp
        generalize hya : y1.alloc (.cells #[.slice none 0 0] 25) = y11 at *
        clear hya
        refine hK.out _ _ (held_3x h1 ga) (fun h11 => ?_)
        clear hK K
        try simp only [Act.put, List.setIfInBounds_toArray, List.set_cons_zero, List.set_cons_succ]
        refine wpAnyH_ready (rs := [3]) (by kernel_rfl) (by simp) ?_
        refine AllReadyH.cons rfl (fun K hK => ?_) AllReadyH.nil
        go_simp
        refine (toT_any a1 cap1 ys (by have := hsum.out; omega) _ (YB.out.grown h11.2.2.2)).mono ?_
        rintro e y12 ⟨b12, c12, rfl, ho12, g12⟩
        have I1_12 := Lib.hid (I1_11.out.grown g12)
        have I12 := Lib.hid (ho12.at my.out)
        clear ho12
        have T_12 := Lib.hid (T_11.out.grown g12)
        go_wp2_with fail
        refine hK.out _ _ (held_3x h11 g12) (fun h12 => ?_)
        clear hK K
        try simp only [Act.put, List.setIfInBounds_toArray, List.set_cons_zero, List.set_cons_succ]
        refine wpAnyH_ready (rs := [5]) (by kernel_rfl) (by simp) ?_
        refine AllReadyH.cons rfl (fun K hK => ?_) AllReadyH.nil
        go_simp
        refine (toT_any a2 cap2 zs (by have := hsum.out; omega) _ (ZB.out.grown h12.2.2.2)).mono ?_
        rintro e y13 ⟨b13, c13, rfl, ho13, g13⟩
        have I1_13 := Lib.hid (I1_12.out.grown g13)
        have I12_13 := Lib.hid (I12.out.grown g13)
        have I13 := Lib.hid (ho13.at mz.out)
        clear ho13
        have T_13 := Lib.hid (T_12.out.grown g13)
        go_wp2_with fail
        refine hK.out _ _ (held_3x h12 g13) (fun h13 => ?_)
        clear hK K
        try simp only [Act.put, List.setIfInBounds_toArray, List.set_cons_zero, List.set_cons_succ]
        refine wpAnyH_ready (rs := [6]) (by kernel_rfl) (by simp) ?_
        refine AllReadyH.cons rfl (fun K hK => ?_) AllReadyH.nil
        go_simp
        have hvb := Lib.hid (h13.2.2.2.size)
        have cp := sput_any b1 b12 b13 c1 c12 c13 xs ys zs _ I1_13.out I12_13.out I13.out
        rw [HRS.out] at cp
        refine cp.mono ?_
        rintro e y14 ⟨b14, c14, rfl, ho14, g14⟩
        have hne : Hid (∀ gq, (Value.slice b14 rs.length c14).ownBlock = some gq → gq ≠ y1.heap.size) := fun gq ee => by have := World.ownsRow.lt ho14 _ ee; have := T_13.out.lt; omega
        have HO := Lib.hid ho14
        clear ho14 cp
        have T_14 := Lib.hid (T_13.out.grown g14)
        go_wp2_with fail
        refine hK.out _ _ (held_3x h13 g14) (fun h14 => ?_)
        clear hK K
        try simp only [Act.put, List.setIfInBounds_toArray, List.set_cons_zero, List.set_cons_succ]
        refine wpAnyH_ready (rs := [8]) (by kernel_rfl) (by simp) ?_
        refine AllReadyH.cons rfl (fun K hK => ?_) AllReadyH.nil
        have n8 := T_14.out.cell
        have d8 := T_14.out.free
        have R := Lib.hid (put_fin T_14.out HO.out hne.out hvb.out hB11.out h14.2.2.2)
        have hs := held_set (v := .slice b14 rs.length c14) h14 hB11.out hs0.out hs1.out hs2.out
        go_simp
        refine hK.out _ _ hs (fun hz => ?_)
        clear hK K n8 d8 hs
        try simp only [Act.put, List.setIfInBounds_toArray, List.set_cons_zero, List.set_cons_succ]
        refine wpAnyH_done (by kernel_rfl) ?_ _
        refine NoPanic.normal ?_
        go_wp2_with fail
        go_meet
        case rel => exact R.out
    · have ga := World.grownBy_alloc ud (.cells #[.slice none 0 0] 25) none
      have T_15 := Lib.hid (T1.new ud (.slice none 0 0))
      have hB15 := Lib.hid (hH.2.2.2.size)
      go_simp
      generalize hya : ud.alloc (.cells #[.slice none 0 0] 25) = y15 at *
      clear hya
      refine hK.out _ _ (held_3x hH ga) (fun h15 => ?_)
      clear hK K
      try simp only [Act.put, List.setIfInBounds_toArray, List.set_cons_zero, List.set_cons_succ]
      refine wpAnyH_ready (rs := [1]) (by kernel_rfl) (by simp) ?_
      refine AllReadyH.cons rfl (fun K hK => ?_) AllReadyH.nil
      go_simp
      refine (toT_any a0 cap0 xs (by have := hsum.out; omega) _ (XB.out.grown h15.2.2.2)).mono ?_
      rintro e y16 ⟨b16, c16, rfl, ho16, g16⟩
      have I16 := Lib.hid (ho16.at mx.out)
      clear ho16
      have T_16 := Lib.hid (T_15.out.grown g16)
      go_wp2_with fail
      refine hK.out _ _ (held_3x h15 g16) (fun h16 => ?_)
      clear hK K
      try simp only [Act.put, List.setIfInBounds_toArray, List.set_cons_zero, List.set_cons_succ]
      refine wpAnyH_ready (rs := [3]) (by kernel_rfl) (by simp) ?_
      refine AllReadyH.cons rfl (fun K hK => ?_) AllReadyH.nil
      go_simp
      refine (toT_any a1 cap1 ys (by have := hsum.out; omega) _ (YB.out.grown h16.2.2.2)).mono ?_
      rintro e y17 ⟨b17, c17, rfl, ho17, g17⟩
      have I16_17 := Lib.hid (I16.out.grown g17)
      have I17 := Lib.hid (ho17.at my.out)
      clear ho17
      have T_17 := Lib.hid (T_16.out.grown g17)
      go_wp2_with fail
      refine hK.out _ _ (held_3x h16 g17) (fun h17 => ?_)
      clear hK K
      try simp only [Act.put, List.setIfInBounds_toArray, List.set_cons_zero, List.set_cons_succ]
      refine wpAnyH_ready (rs := [5]) (by kernel_rfl) (by simp) ?_
      refine AllReadyH.cons rfl (fun K hK => ?_) AllReadyH.nil
      go_simp
      refine (toT_any a2 cap2 zs (by have := hsum.out; omega) _ (ZB.out.grown h17.2.2.2)).mono ?_
      rintro e y18 ⟨b18, c18, rfl, ho18, g18⟩
      have I16_18 := Lib.hid (I16_17.out.grown g18)
      have I17_18 := Lib.hid (I17.out.grown g18)
      have I18 := Lib.hid (ho18.at mz.out)
      clear ho18
      have T_18 := Lib.hid (T_17.out.grown g18)
      go_wp2_with fail
      refine hK.out _ _ (held_3x h17 g18) (fun h18 => ?_)
      clear hK K
      try simp only [Act.put, List.setIfInBounds_toArray, List.set_cons_zero, List.set_cons_succ]
      refine wpAnyH_ready (rs := [6]) (by kernel_rfl) (by simp) ?_
      refine AllReadyH.cons rfl (fun K hK => ?_) AllReadyH.nil
      go_simp
      have hvb := Lib.hid (h18.2.2.2.size)
      have cp := sput_any b16 b17 b18 c16 c17 c18 xs ys zs _ I16_18.out I17_18.out I18.out
      rw [HRS.out] at cp
      refine cp.mono ?_
      rintro e y19 ⟨b19, c19, rfl, ho19, g19⟩
      have hne : Hid (∀ gq, (Value.slice b19 rs.length c19).ownBlock = some gq → gq ≠ ud.heap.size) := fun gq ee => by have := World.ownsRow.lt ho19 _ ee; have := T_18.out.lt; omega
      have HO := Lib.hid ho19
      clear ho19 cp
      have T_19 := Lib.hid (T_18.out.grown g19)
      go_wp2_with fail
      refine hK.out _ _ (held_3x h18 g19) (fun h19 => ?_)
      clear hK K
      try simp only [Act.put, List.setIfInBounds_toArray, List.set_cons_zero, List.set_cons_succ]
      refine wpAnyH_ready (rs := [8]) (by kernel_rfl) (by simp) ?_
      refine AllReadyH.cons rfl (fun K hK => ?_) AllReadyH.nil
      have n8 := T_19.out.cell
      have d8 := T_19.out.free
      have R := Lib.hid (put_fin T_19.out HO.out hne.out hvb.out hB15.out h19.2.2.2)
      have hs := held_set (v := .slice b19 rs.length c19) h19 hB15.out hs0.out hs1.out hs2.out
      go_simp
      refine hK.out _ _ hs (fun hz => ?_)
      clear hK K n8 d8 hs
      try simp only [Act.put, List.setIfInBounds_toArray, List.set_cons_zero, List.set_cons_succ]
      refine wpAnyH_done (by kernel_rfl) ?_ _
      refine NoPanic.normal ?_
      go_wp2_with fail
      go_meet
      case rel => exact R.out
  case rest =>
  clear XB YB ZB CB0 CB1 CB2 hs0 hs1 hs2 hb
  obtain ⟨wu4, rfl⟩ : ∃ wu4, wu4 = wc := ⟨wc, rfl⟩
  obtain ⟨B8, e, ce, rfl, hT8, hO8, g4⟩ := hcut
  have T8 := Lib.hid hT8
  have O8 := Lib.hid hO8
  have n0 := g4.cell C0.out (by simp)
  have lx : xs.length ≤ 100000000 := by have := hsum.out; omega
  have ly : ys.length ≤ 100000000 := by have := hsum.out; omega
  have lz : zs.length ≤ 100000000 := by have := hsum.out; omega
  have ct := toT_any a0 cap0 xs lx wu4 (X0.out.grown g4)
  clear hT8 hO8
  go_wp2_with fail
  refine ct.mono ?_
  rintro ee wu5 ⟨b0, c0, rfl, ho0, g5⟩
  clear ct n0
  have ga := World.grownBy_alloc wu5 (.cells #[.slice b0 xs.length c0] 25) none
  have T9 := Lib.hid (T1.new wu5 (.slice b0 xs.length c0))
  have D0 : Hid (∀ q, b0 = some q → wu4.heap.size ≤ q.block ∧ q.block < wu5.heap.size) := fun q hq => World.ownsRow.lt ho0 q.block (by rw [hq]; rfl)
  have O0 := Lib.hid (ho0.kept ga)
  have s5 := Lib.hid g5.size
  have g49 := grownBy_trans g5 ga
  have g9 := grownBy_trans g4 g49
  generalize hv9 : wu5.alloc (.cells #[.slice b0 xs.length c0] 25) = v9 at *
  have n1 := g9.cell C1.out (by simp)
  have ct := toT_any a1 cap1 ys ly v9 (Y0.out.grown g9)
  clear ho0 g5 ga
  go_wp2_with fail
  clear hv9
  refine ct.mono ?_
  rintro ee wu6 ⟨b1, c1, rfl, ho1, g6⟩
  clear ct n1
  have ga := World.grownBy_alloc wu6 (.cells #[.slice b1 ys.length c1] 25) none
  have T10 := Lib.hid (T1.new wu6 (.slice b1 ys.length c1))
  have D1 : Hid (∀ q, b1 = some q → v9.heap.size ≤ q.block ∧ q.block < wu6.heap.size) := fun q hq => World.ownsRow.lt ho1 q.block (by rw [hq]; rfl)
  have O1 := Lib.hid (ho1.kept ga)
  have s6 := Lib.hid g6.size
  have g910 := grownBy_trans g6 ga
  have g10 := grownBy_trans g9 g910
  generalize hv10 : wu6.alloc (.cells #[.slice b1 ys.length c1] 25) = v10 at *
  have n2 := g10.cell C2.out (by simp)
  have ct := toT_any a2 cap2 zs lz v10 (Z0.out.grown g10)
  clear ho1 g6 ga
  go_wp2_with fail
  clear hv10
  refine ct.mono ?_
  rintro ee wu7 ⟨b2, c2, rfl, ho2, g7⟩
  clear ct n2
  have ga := World.grownBy_alloc wu7 (.cells #[.slice b2 zs.length c2] 25) none
  have T11 := Lib.hid (T1.new wu7 (.slice b2 zs.length c2))
  have D2 : Hid (∀ q, b2 = some q → v10.heap.size ≤ q.block ∧ q.block < wu7.heap.size) := fun q hq => World.ownsRow.lt ho2 q.block (by rw [hq]; rfl)
  have O2 := Lib.hid (ho2.kept ga)
  have s7 := Lib.hid g7.size
  have g1011 := grownBy_trans g7 ga
  have g11 := grownBy_trans g10 g1011
  generalize hv11 : wu7.alloc (.cells #[.slice b2 zs.length c2] 25) = v11 at *
  have T9b := Lib.hid (T9.out.grown (grownBy_trans g910 g1011))
  have T10b := Lib.hid (T10.out.grown g1011)
  have O0b := Lib.hid (O0.out.kept (grownBy_trans g910 g1011))
  have O1b := Lib.hid (O1.out.kept g1011)
  have n9 := T9b.out.cell
  have n10 := T10b.out.cell
  have n11 := T11.out.cell
  have ci := iput_any b0 b1 b2 c0 c1 c2 xs ys zs v11 (O0b.out.at mx.out) (O1b.out.at my.out) (O2.out.at mz.out)
  rw [HRS.out] at ci
  clear ho2 g7 ga
  go_wp2_with fail
  clear hv11
  refine ci.mono ?_
  rintro ee wu12 ⟨g, cg, rfl, ho3, g12⟩
  clear ci n9 n10 n11
  have ga := World.grownBy_alloc wu12 (.cells #[.slice g rs.length cg] 25) none
  have T12 := Lib.hid (T1.new wu12 (.slice g rs.length cg))
  have D3 : Hid (∀ q, g = some q → v11.heap.size ≤ q.block ∧ q.block < wu12.heap.size) := fun q hq => World.ownsRow.lt ho3 q.block (by rw [hq]; rfl)
  have O3 := Lib.hid (ho3.kept ga)
  have s12 := Lib.hid g12.size
  have gx := grownBy_trans g12 ga
  generalize hv12 : wu12.alloc (.cells #[.slice g rs.length cg] 25) = v12 at *
  have G412 := grownBy_trans g49 (grownBy_trans g910 (grownBy_trans g1011 gx))
  have D8 : Hid (∀ q, e = some q → q.block < wu4.heap.size) := fun q hq => (World.ownsRow.lt O8.out q.block (by rw [hq]; rfl)).2
  have hrm : rs.length ≤ maxLen := by have := hrl.out; unfold maxLen; omega
  obtain ⟨s4, hs4⟩ : ∃ n, n = wu4.heap.size := ⟨_, rfl⟩
  obtain ⟨B9, hB9⟩ : ∃ n, n = wu5.heap.size := ⟨_, rfl⟩
  obtain ⟨B10, hB10⟩ : ∃ n, n = wu6.heap.size := ⟨_, rfl⟩
  obtain ⟨B11, hB11⟩ : ∃ n, n = wu7.heap.size := ⟨_, rfl⟩
  obtain ⟨B12, hB12⟩ : ∃ n, n = wu12.heap.size := ⟨_, rfl⟩
  obtain ⟨lo1, hlo1⟩ : ∃ n, n = v9.heap.size := ⟨_, rfl⟩
  obtain ⟨lo2, hlo2⟩ : ∃ n, n = v10.heap.size := ⟨_, rfl⟩
  obtain ⟨lo3, hlo3⟩ : ∃ n, n = v11.heap.size := ⟨_, rfl⟩
  obtain ⟨lo0, hlo0⟩ : ∃ n, n = wu4.heap.size := ⟨_, rfl⟩
  have BD : Hid (PBd v0 s4 B8 B9 B10 B11 B12 e b0 b1 b2 g) := by
    have e8 := T8.out.lt
    have e9 := T9.out.lt
    have e10 := T10.out.lt
    have e11 := T11.out.lt
    have f5 := s5.out
    have f6 := s6.out
    have f7 := s7.out
    have f12 := s12.out
    have fv := g4.size
    exact ⟨by omega, by omega, by omega, by omega, by omega, fun q hq => by have := D8.out q hq; omega, fun q hq => by have := D0.out q hq; omega, fun q hq => by have := D1.out q hq; omega, fun q hq => by have := D2.out q hq; omega, fun q hq => by have := D3.out q hq; omega, by omega⟩
  have PS : Hid (PSt v0 s4 B8 B9 B10 B11 B12 e b0 b1 b2 g ce c0 c1 c2 cg lo0 lo1 lo2 lo3 rs xs ys zs (xs) (ys) (zs) (rs) v12) := by
    unfold Hid
    rw [hB9, hB10, hB11, hB12, hlo0, hlo1, hlo2, hlo3]
    exact ⟨T8.out.grown G412, T9b.out.grown gx, T10b.out.grown gx, T11.out.grown gx, T12.out, (O8.out.kept G412).at hrm, O0b.out.kept gx, O1b.out.kept gx, O2.out.kept gx, O3.out, grownBy_trans g4 G412⟩
  have hmv : Hid (v0.heap.size ≤ lo0 ∧ lo0 ≤ lo1 ∧ lo1 ≤ lo2 ∧ lo2 ≤ lo3) := by
    have e9 := T9.out.lt
    have e10 := T10.out.lt
    have e11 := T11.out.lt
    have f5 := s5.out
    have f6 := s6.out
    have f7 := s7.out
    have fv := g4.size
    refine ⟨by omega, by omega, by omega, by omega⟩
  have m12 := PS.out.t12.cell
  have m8 := PS.out.t8.cell
  rw [hB12] at m12
  have hrs9 : Hid (rs.length ≤ maxLen) := Lib.hid hrm
  clear g4 g9 g10 g11 g49 g910 g1011 G412 gx T8 O8 T9 T10 T11 T12 T9b T10b O0 O1 O2 O3 O0b O1b D0 D1 D2 D3 D8 s5 s6 s7 s12 ho3 g12 ga
  go_wp2_with fail
  clear hv12
  rw [← hB9, ← hB10, ← hB11, ← hB12]
  clear hB9 hB10 hB11 hB12 hlo0 hlo1 hlo2 hlo3 hs4 m12 m8
  refine (eqT_any g e cg ce rs rs v12 (PS.out.o3.at hrs9.out) PS.out.ir).mono ?_
  rw [sameL_self]
  rintro ee wu13 ⟨rfl, g13⟩
  have P0 := Lib.hid (PS.out.grown g13)
  clear g13
  have hgd : wu13.grownBy wu13.drew none := grownBy_drew (grownBy_refl _ _)
  have hb : wu13.drew.cell? ⟨B9, 0, none⟩ = some (.slice b0 xs.length c0) ∧ wu13.drew.cell? ⟨w.heap.size, 0, none⟩ = some (.slice a0 xs.length cap0) ∧ wu13.grownBy wu13.drew none := ⟨hgd.cell P0.out.t9.cell (by simp), hgd.cell (P0.out.gr.cell C0.out (by simp)) (by simp), hgd⟩
  clear hgd
  go_wp2_with fail
  refine wp_region_noPanic ?_
  refine wp_region_held_drew (S := fun w' => w'.cell? ⟨B9, 0, none⟩ = some (.slice b0 xs.length c0) ∧ w'.cell? ⟨w.heap.size, 0, none⟩ = some (.slice a0 xs.length cap0) ∧ wu13.grownBy w' none) (by kernel_rfl) hb (fun hH => ?_)
  clear hb
  generalize wu13.drew = ud at hH ⊢
  refine take_an 0 53 (v := ?v4) rfl rfl (by kernel_rfl) (by kernel_rfl) (by kernel_rfl) (fun _ _ _ h => h) (by rfl) ?y4 hH ?r4
  case y4 => (rintro w ⟨p0, p1, p2⟩; go_simp; try with_reducible rfl)
  simp only [Act.put, List.setIfInBounds_toArray, List.set_cons_zero, List.set_cons_succ]
  refine take_an 1 54 (v := ?v5) rfl rfl (by kernel_rfl) (by kernel_rfl) (by kernel_rfl) (fun _ _ _ h => h) (by rfl) ?y5 hH ?r5
  case y5 => (rintro w ⟨p0, p1, p2⟩; go_simp; try with_reducible rfl)
  simp only [Act.put, List.setIfInBounds_toArray, List.set_cons_zero, List.set_cons_succ]
  refine wpAnyH_ready (rs := [2]) (by kernel_rfl) (by simp) ?_
  refine AllReadyH.cons rfl (fun K hK => ?_) AllReadyH.nil
  go_simp
  refine (toT_any a0 cap0 xs lx ud (X0.out.grown (grownBy_trans P0.out.gr hH.2.2))).mono ?_
  rintro ee yu14 ⟨bb, cc, rfl, hoo, gy⟩
  have II := Lib.hid (hoo.at mx.out)
  clear hoo
  go_wp2_with fail
  refine hK.out _ _ (held_2x hH gy) (fun h1 => ?_)
  clear hK K
  try simp only [Act.put, List.setIfInBounds_toArray, List.set_cons_zero, List.set_cons_succ]
  refine wpAnyH_ready (rs := [3]) (by kernel_rfl) (by simp) ?_
  refine AllReadyH.cons rfl (fun K hK => ?_) AllReadyH.nil
  go_simp
  have ceq := eqT_any b0 bb c0 cc xs xs yu14 ((P0.out.o0.at mx.out).grown h1.2.2) II.out
  rw [sameL_self] at ceq
  refine ceq.mono ?_
  rintro ee wu14 ⟨rfl, gz⟩
  clear ceq
  go_wp2_with fail
  refine hK.out _ _ (held_2x h1 gz) (fun h2 => ?_)
  clear hK K
  try simp only [Act.put, List.setIfInBounds_toArray, List.set_cons_zero, List.set_cons_succ]
  refine take_an 4 57 (v := ?v6) rfl rfl (by kernel_rfl) (by kernel_rfl) (by kernel_rfl) (fun _ _ _ h => h) (by rfl) ?y6 h2 ?r6
  case y6 => (rintro w ⟨p0, p1, p2⟩; go_simp; try with_reducible rfl)
  simp only [Act.put, List.setIfInBounds_toArray, List.set_cons_zero, List.set_cons_succ]
  refine wpAnyH_done (by kernel_rfl) ?_ _
  refine NoPanic.normal ?_
  have P1 := Lib.hid (P0.out.grown h2.2.2)
  clear h1 h2 hH gy gz II
  have hgd : wu14.grownBy wu14.drew none := grownBy_drew (grownBy_refl _ _)
  have hb : wu14.drew.cell? ⟨B10, 0, none⟩ = some (.slice b1 ys.length c1) ∧ wu14.drew.cell? ⟨w.heap.size + 1, 0, none⟩ = some (.slice a1 ys.length cap1) ∧ wu14.grownBy wu14.drew none := ⟨hgd.cell P1.out.t10.cell (by simp), hgd.cell (P1.out.gr.cell C1.out (by simp)) (by simp), hgd⟩
  clear hgd
  go_wp2_with fail
  refine wp_region_noPanic ?_
  refine wp_region_held_drew (S := fun w' => w'.cell? ⟨B10, 0, none⟩ = some (.slice b1 ys.length c1) ∧ w'.cell? ⟨w.heap.size + 1, 0, none⟩ = some (.slice a1 ys.length cap1) ∧ wu14.grownBy w' none) (by kernel_rfl) hb (fun hH => ?_)
  clear hb
  generalize wu14.drew = ud at hH ⊢
  refine take_an 0 58 (v := ?v7) rfl rfl (by kernel_rfl) (by kernel_rfl) (by kernel_rfl) (fun _ _ _ h => h) (by rfl) ?y7 hH ?r7
  case y7 => (rintro w ⟨p0, p1, p2⟩; go_simp; try with_reducible rfl)
  simp only [Act.put, List.setIfInBounds_toArray, List.set_cons_zero, List.set_cons_succ]
  refine take_an 1 59 (v := ?v8) rfl rfl (by kernel_rfl) (by kernel_rfl) (by kernel_rfl) (fun _ _ _ h => h) (by rfl) ?y8 hH ?r8
  case y8 => (rintro w ⟨p0, p1, p2⟩; go_simp; try with_reducible rfl)
  simp only [Act.put, List.setIfInBounds_toArray, List.set_cons_zero, List.set_cons_succ]
  refine wpAnyH_ready (rs := [2]) (by kernel_rfl) (by simp) ?_
  refine AllReadyH.cons rfl (fun K hK => ?_) AllReadyH.nil
  go_simp
  refine (toT_any a1 cap1 ys ly ud (Y0.out.grown (grownBy_trans P1.out.gr hH.2.2))).mono ?_
  rintro ee yu15 ⟨bb, cc, rfl, hoo, gy⟩
  have II := Lib.hid (hoo.at my.out)
  clear hoo
  go_wp2_with fail
  refine hK.out _ _ (held_2x hH gy) (fun h1 => ?_)
  clear hK K
  try simp only [Act.put, List.setIfInBounds_toArray, List.set_cons_zero, List.set_cons_succ]
  refine wpAnyH_ready (rs := [3]) (by kernel_rfl) (by simp) ?_
  refine AllReadyH.cons rfl (fun K hK => ?_) AllReadyH.nil
  go_simp
  have ceq := eqT_any b1 bb c1 cc ys ys yu15 ((P1.out.o1.at my.out).grown h1.2.2) II.out
  rw [sameL_self] at ceq
  refine ceq.mono ?_
  rintro ee wu15 ⟨rfl, gz⟩
  clear ceq
  go_wp2_with fail
  refine hK.out _ _ (held_2x h1 gz) (fun h2 => ?_)
  clear hK K
  try simp only [Act.put, List.setIfInBounds_toArray, List.set_cons_zero, List.set_cons_succ]
  refine take_an 4 62 (v := ?v9) rfl rfl (by kernel_rfl) (by kernel_rfl) (by kernel_rfl) (fun _ _ _ h => h) (by rfl) ?y9 h2 ?r9
  case y9 => (rintro w ⟨p0, p1, p2⟩; go_simp; try with_reducible rfl)
  simp only [Act.put, List.setIfInBounds_toArray, List.set_cons_zero, List.set_cons_succ]
  refine wpAnyH_done (by kernel_rfl) ?_ _
  refine NoPanic.normal ?_
  have P2 := Lib.hid (P1.out.grown h2.2.2)
  clear h1 h2 hH gy gz II
  have hgd : wu15.grownBy wu15.drew none := grownBy_drew (grownBy_refl _ _)
  have hb : wu15.drew.cell? ⟨B11, 0, none⟩ = some (.slice b2 zs.length c2) ∧ wu15.drew.cell? ⟨w.heap.size + 1 + 1, 0, none⟩ = some (.slice a2 zs.length cap2) ∧ wu15.grownBy wu15.drew none := ⟨hgd.cell P2.out.t11.cell (by simp), hgd.cell (P2.out.gr.cell C2.out (by simp)) (by simp), hgd⟩
  clear hgd
  go_wp2_with fail
  refine wp_region_noPanic ?_
  refine wp_region_held_drew (S := fun w' => w'.cell? ⟨B11, 0, none⟩ = some (.slice b2 zs.length c2) ∧ w'.cell? ⟨w.heap.size + 1 + 1, 0, none⟩ = some (.slice a2 zs.length cap2) ∧ wu15.grownBy w' none) (by kernel_rfl) hb (fun hH => ?_)
  clear hb
  generalize wu15.drew = ud at hH ⊢
  refine take_an 0 63 (v := ?v10) rfl rfl (by kernel_rfl) (by kernel_rfl) (by kernel_rfl) (fun _ _ _ h => h) (by rfl) ?y10 hH ?r10
  case y10 => (rintro w ⟨p0, p1, p2⟩; go_simp; try with_reducible rfl)
  simp only [Act.put, List.setIfInBounds_toArray, List.set_cons_zero, List.set_cons_succ]
  refine take_an 1 64 (v := ?v11) rfl rfl (by kernel_rfl) (by kernel_rfl) (by kernel_rfl) (fun _ _ _ h => h) (by rfl) ?y11 hH ?r11
  case y11 => (rintro w ⟨p0, p1, p2⟩; go_simp; try with_reducible rfl)
  simp only [Act.put, List.setIfInBounds_toArray, List.set_cons_zero, List.set_cons_succ]
  refine wpAnyH_ready (rs := [2]) (by kernel_rfl) (by simp) ?_
  refine AllReadyH.cons rfl (fun K hK => ?_) AllReadyH.nil
  go_simp
  refine (toT_any a2 cap2 zs lz ud (Z0.out.grown (grownBy_trans P2.out.gr hH.2.2))).mono ?_
  rintro ee yu16 ⟨bb, cc, rfl, hoo, gy⟩
  have II := Lib.hid (hoo.at mz.out)
  clear hoo
  go_wp2_with fail
  refine hK.out _ _ (held_2x hH gy) (fun h1 => ?_)
  clear hK K
  try simp only [Act.put, List.setIfInBounds_toArray, List.set_cons_zero, List.set_cons_succ]
  refine wpAnyH_ready (rs := [3]) (by kernel_rfl) (by simp) ?_
  refine AllReadyH.cons rfl (fun K hK => ?_) AllReadyH.nil
  go_simp
  have ceq := eqT_any b2 bb c2 cc zs zs yu16 ((P2.out.o2.at mz.out).grown h1.2.2) II.out
  rw [sameL_self] at ceq
  refine ceq.mono ?_
  rintro ee wu16 ⟨rfl, gz⟩
  clear ceq
  go_wp2_with fail
  refine hK.out _ _ (held_2x h1 gz) (fun h2 => ?_)
  clear hK K
  try simp only [Act.put, List.setIfInBounds_toArray, List.set_cons_zero, List.set_cons_succ]
  refine take_an 4 67 (v := ?v12) rfl rfl (by kernel_rfl) (by kernel_rfl) (by kernel_rfl) (fun _ _ _ h => h) (by rfl) ?y12 h2 ?r12
  case y12 => (rintro w ⟨p0, p1, p2⟩; go_simp; try with_reducible rfl)
  simp only [Act.put, List.setIfInBounds_toArray, List.set_cons_zero, List.set_cons_succ]
  refine wpAnyH_done (by kernel_rfl) ?_ _
  refine NoPanic.normal ?_
  have P3 := Lib.hid (P2.out.grown h2.2.2)
  clear h1 h2 hH gy gz II
  have n := P3.out.t9.cell
  have hKK1 := Lib.hid (rfl : (1 : Int) + (xs.length : Int) = 1 + (xs.length : Int))
  go_wp2_with fail
  refine (markB_any 1 (by have := hsum.out; have := hrl.out; omega) lo0 b0 c0 xs lx wu16 P3.out.o0).mono ?_
  rintro ee wu17 ⟨he, ho, hgm⟩
  obtain ⟨K1, hq⟩ : ∃ K : Int, 1 + (xs.length : Int) = K := ⟨_, rfl⟩
  rw [hq] at he
  subst he
  have HK1 := Lib.hid hq
  clear hq n hKK1
  have ho' : OwnI wu17 lo0 b0 c0 (marks 1 xs.length) := by unfold OwnI; rw [marks_len]; exact ho
  have P4 := Lib.hid (P3.out.mark0 BD.out hgm ho')
  clear ho ho' hgm
  have n := P4.out.t10.cell
  have hKK2 := Lib.hid (rfl : (K1 : Int) + (ys.length : Int) = K1 + (ys.length : Int))
  go_wp2_with fail
  refine (markB_any K1 (by have := HK1.out; have := hsum.out; have := hrl.out; omega) lo1 b1 c1 ys ly wu17 P4.out.o1).mono ?_
  rintro ee wu18 ⟨he, ho, hgm⟩
  obtain ⟨K2, hq⟩ : ∃ K : Int, K1 + (ys.length : Int) = K := ⟨_, rfl⟩
  rw [hq] at he
  subst he
  have HK2 := Lib.hid hq
  clear hq n hKK2
  have ho' : OwnI wu18 lo1 b1 c1 (marks K1 ys.length) := by unfold OwnI; rw [marks_len]; exact ho
  have P5 := Lib.hid (P4.out.mark1 BD.out hgm ho')
  clear ho ho' hgm
  have n := P5.out.t11.cell
  have hKK3 := Lib.hid (rfl : (K2 : Int) + (zs.length : Int) = K2 + (zs.length : Int))
  go_wp2_with fail
  refine (markB_any K2 (by have := HK2.out; have := HK1.out; have := hsum.out; have := hrl.out; omega) lo2 b2 c2 zs lz wu18 P5.out.o2).mono ?_
  rintro ee wu19 ⟨he, ho, hgm⟩
  obtain ⟨K3, hq⟩ : ∃ K : Int, K2 + (zs.length : Int) = K := ⟨_, rfl⟩
  rw [hq] at he
  subst he
  have HK3 := Lib.hid hq
  clear hq n hKK3
  have ho' : OwnI wu19 lo2 b2 c2 (marks K2 zs.length) := by unfold OwnI; rw [marks_len]; exact ho
  have P6 := Lib.hid (P5.out.mark2 BD.out hgm ho')
  clear ho ho' hgm
  have hk3 : ¬ (K3 < 0) := by have := HK1.out; have := HK2.out; have := HK3.out; omega
  have n12 := P6.out.t12.cell
  have n8 := P6.out.t8.cell
  go_wp2_with fail
  refine (eqT_any g e cg ce rs rs wu19 (P6.out.o3.at hrs9.out) P6.out.ir).mono ?_
  rw [sameL_self]
  rintro ee wu20 ⟨rfl, g20⟩
  have P7 := Lib.hid (P6.out.grown g20)
  clear g20 n12 n8
  have n := P7.out.t12.cell
  have hKK4 := Lib.hid (rfl : (1 : Int) + (rs.length : Int) = 1 + (rs.length : Int))
  go_wp2_with fail
  refine (markB_any 1 (by have := hsum.out; have := hrl.out; omega) lo3 g cg rs (by have := hrl.out; omega) wu20 P7.out.o3).mono ?_
  rintro ee wu21 ⟨he, ho, hgm⟩
  obtain ⟨K4, hq⟩ : ∃ K : Int, 1 + (rs.length : Int) = K := ⟨_, rfl⟩
  rw [hq] at he
  subst he
  have HK4 := Lib.hid hq
  clear hq n hKK4
  have ho' : OwnI wu21 lo3 g cg (marks 1 rs.length) := by unfold OwnI; rw [marks_len]; exact ho
  have P8 := Lib.hid (P7.out.mark3 BD.out hgm ho')
  clear ho ho' hgm
  have k4 : ¬ (K4 < 0) := by have := HK4.out; omega
  have k5 : (K4 != K4) = false := by simp
  have n12 := P8.out.t12.cell
  have hI : IntsAt wu21 g (marks 1 rs.length) := P8.out.o3.at (by rw [marks_len]; exact hrs9.out)
  have ch := heldT_any 1 (by omega) g rs.length cg (by have := hrl.out; omega) wu21 hI
  rw [HK4.out] at ch
  go_wp2_with fail
  refine ch.mono ?_
  rintro ee wu22 ⟨rfl, gh⟩
  have P9 := Lib.hid (P8.out.grown gh)
  clear ch hI n12 gh
  have XB := Lib.hid (X0.out.grown P9.out.gr)
  have YB := Lib.hid (Y0.out.grown P9.out.gr)
  have ZB := Lib.hid (Z0.out.grown P9.out.gr)
  have CB0 := Lib.hid (P9.out.gr.cell C0.out (by simp))
  have CB1 := Lib.hid (P9.out.gr.cell C1.out (by simp))
  have CB2 := Lib.hid (P9.out.gr.cell C2.out (by simp))
  have hs0 : Hid (w.heap.size < wu22.heap.size) := Nat.lt_of_lt_of_le HSZ.out.1 P9.out.gr.size
  have hs1 : Hid (w.heap.size + 1 < wu22.heap.size) := Nat.lt_of_lt_of_le HSZ.out.2.1 P9.out.gr.size
  have hs2 : Hid (w.heap.size + 1 + 1 < wu22.heap.size) := Nat.lt_of_lt_of_le HSZ.out.2.2 P9.out.gr.size
  have hgd := grownBy_drew (grownBy_refl wu22 none)
  have hb : wu22.drew.cell? ⟨w.heap.size, 0, none⟩ = some (.slice a0 xs.length cap0) ∧ wu22.drew.cell? ⟨w.heap.size + 1, 0, none⟩ = some (.slice a1 ys.length cap1) ∧ wu22.drew.cell? ⟨w.heap.size + 1 + 1, 0, none⟩ = some (.slice a2 zs.length cap2) ∧ wu22.grownBy wu22.drew none := ⟨hgd.cell CB0.out (by simp), hgd.cell CB1.out (by simp), hgd.cell CB2.out (by simp), hgd⟩
  clear hgd
  go_wp2_with fail
  go_cut [16] from 96 to 102 (fun s8 wc => CutR rs wu22 s8 wc)
  case first =>
    refine wp_region_noPanic ?_
    refine wp_region_held_drew (S := fun w' => w'.cell? ⟨w.heap.size, 0, none⟩ = some (.slice a0 xs.length cap0) ∧ w'.cell? ⟨w.heap.size + 1, 0, none⟩ = some (.slice a1 ys.length cap1) ∧ w'.cell? ⟨w.heap.size + 1 + 1, 0, none⟩ = some (.slice a2 zs.length cap2) ∧ wu22.grownBy w' none) (by kernel_rfl) hb (fun hH => ?_)
    clear hb
    generalize wu22.drew = ud at hH ⊢
    refine take_an 0 96 (v := ?v13) rfl rfl (by kernel_rfl) (by kernel_rfl) (by kernel_rfl) (fun _ _ _ h => h) (by rfl) ?y13 hH ?r13
    case y13 => (rintro w ⟨p0, p1, p2, p3⟩; go_simp; try with_reducible rfl)
    simp only [Act.put, List.setIfInBounds_toArray, List.set_cons_zero, List.set_cons_succ]
    refine take_an 2 98 (v := ?v14) rfl rfl (by kernel_rfl) (by kernel_rfl) (by kernel_rfl) (fun _ _ _ h => h) (by rfl) ?y14 hH ?r14
    case y14 => (rintro w ⟨p0, p1, p2, p3⟩; go_simp; try with_reducible rfl)
    simp only [Act.put, List.setIfInBounds_toArray, List.set_cons_zero, List.set_cons_succ]
    refine take_an 4 100 (v := ?v15) rfl rfl (by kernel_rfl) (by kernel_rfl) (by kernel_rfl) (fun _ _ _ h => h) (by rfl) ?y15 hH ?r15
    case y15 => (rintro w ⟨p0, p1, p2, p3⟩; go_simp; try with_reducible rfl)
    simp only [Act.put, List.setIfInBounds_toArray, List.set_cons_zero, List.set_cons_succ]
    refine wpAnyH_ready (rs := [1, 7]) (by kernel_rfl) (by simp) ?_
    refine AllReadyH.cons rfl (fun K hK => ?_) (AllReadyH.cons rfl (fun K hK => ?_) AllReadyH.nil)
    · go_simp
      refine (toT_any a0 cap0 xs (by have := hsum.out; omega) _ (XB.out.grown hH.2.2.2)).mono ?_
      rintro e y20 ⟨b20, c20, rfl, ho20, g20⟩
      have I20 := Lib.hid (ho20.at mx.out)
      clear ho20
      go_wp2_with fail
      refine hK.out _ _ (held_3x hH g20) (fun h20 => ?_)
      clear hK K
      try simp only [Act.put, List.setIfInBounds_toArray, List.set_cons_zero, List.set_cons_succ]
      refine wpAnyH_ready (rs := [3, 7]) (by kernel_rfl) (by simp) ?_
      refine AllReadyH.cons rfl (fun K hK => ?_) (AllReadyH.cons rfl (fun K hK => ?_) AllReadyH.nil)
      · go_simp
        refine (toT_any a1 cap1 ys (by have := hsum.out; omega) _ (YB.out.grown h20.2.2.2)).mono ?_
        rintro e y21 ⟨b21, c21, rfl, ho21, g21⟩
        have I20_21 := Lib.hid (I20.out.grown g21)
        have I21 := Lib.hid (ho21.at my.out)
        clear ho21
        go_wp2_with fail
        refine hK.out _ _ (held_3x h20 g21) (fun h21 => ?_)
        clear hK K
        try simp only [Act.put, List.setIfInBounds_toArray, List.set_cons_zero, List.set_cons_succ]
        refine wpAnyH_ready (rs := [5, 7]) (by kernel_rfl) (by simp) ?_
        refine AllReadyH.cons rfl (fun K hK => ?_) (AllReadyH.cons rfl (fun K hK => ?_) AllReadyH.nil)
        · go_simp
          refine (toT_any a2 cap2 zs (by have := hsum.out; omega) _ (ZB.out.grown h21.2.2.2)).mono ?_
          rintro e y22 ⟨b22, c22, rfl, ho22, g22⟩
          have I20_22 := Lib.hid (I20_21.out.grown g22)
          have I21_22 := Lib.hid (I21.out.grown g22)
          have I22 := Lib.hid (ho22.at mz.out)
          clear ho22
          go_wp2_with fail
          refine hK.out _ _ (held_3x h21 g22) (fun h22 => ?_)
          clear hK K
          try simp only [Act.put, List.setIfInBounds_toArray, List.set_cons_zero, List.set_cons_succ]
          refine wpAnyH_ready (rs := [6, 7]) (by kernel_rfl) (by simp) ?_
          refine AllReadyH.cons rfl (fun K hK => ?_) (AllReadyH.cons rfl (fun K hK => ?_) AllReadyH.nil)
          · go_simp
            have hvb := Lib.hid (h22.2.2.2.size)
            have cp := iput_any b20 b21 b22 c20 c21 c22 xs ys zs _ I20_22.out I21_22.out I22.out
            rw [HRS.out] at cp
            refine cp.mono ?_
            rintro e y23 ⟨b23, c23, rfl, ho23, g23⟩
            have HO := Lib.hid ho23
            clear ho23 cp
            go_wp2_with fail
            refine hK.out _ _ (held_3x h22 g23) (fun h23 => ?_)
            clear hK K
            try simp only [Act.put, List.setIfInBounds_toArray, List.set_cons_zero, List.set_cons_succ]
            refine wpAnyH_ready (rs := [7]) (by kernel_rfl) (by simp) ?_
            refine AllReadyH.cons rfl (fun K hK => ?_) AllReadyH.nil
            have ga := World.grownBy_alloc y23 (.cells #[.slice none 0 0] 25) none
            have T_24 := Lib.hid (T1.new y23 (.slice none 0 0))
            have hB24 := Lib.hid (h23.2.2.2.size)
            have hne : Hid (∀ gq, (Value.slice b23 rs.length c23).ownBlock = some gq → gq ≠ y23.heap.size) := fun gq ee => by have := World.ownsRow.lt HO.out _ ee; omega
            have HO := Lib.hid (HO.out.kept ga)
            go_simp
            generalize hya : y23.alloc (.cells #[.slice none 0 0] 25) = y24 at *
            clear hya
            refine hK.out _ _ (held_3x h23 ga) (fun h24 => ?_)
            clear hK K
            try simp only [Act.put, List.setIfInBounds_toArray, List.set_cons_zero, List.set_cons_succ]
            refine wpAnyH_ready (rs := [8]) (by kernel_rfl) (by simp) ?_
            refine AllReadyH.cons rfl (fun K hK => ?_) AllReadyH.nil
            have n8 := T_24.out.cell
            have d8 := T_24.out.free
            have R := Lib.hid (put_fin T_24.out HO.out hne.out hvb.out hB24.out h24.2.2.2)
            have hs := held_set (v := .slice b23 rs.length c23) h24 hB24.out hs0.out hs1.out hs2.out
            go_simp
            refine hK.out _ _ hs (fun hz => ?_)
            clear hK K n8 d8 hs
            try simp only [Act.put, List.setIfInBounds_toArray, List.set_cons_zero, List.set_cons_succ]
            refine wpAnyH_done (by kernel_rfl) ?_ _
            refine NoPanic.normal ?_
            go_wp2_with fail
            go_meet
            case rel => exact R.out
          · have ga := World.grownBy_alloc y22 (.cells #[.slice none 0 0] 25) none
            have T_25 := Lib.hid (T1.new y22 (.slice none 0 0))
            have hB25 := Lib.hid (h22.2.2.2.size)
            have I20_25 := Lib.hid (I20_22.out.grown ga)
            have I21_25 := Lib.hid (I21_22.out.grown ga)
            have I22_25 := Lib.hid (I22.out.grown ga)
            go_simp
            generalize hya : y22.alloc (.cells #[.slice none 0 0] 25) = y25 at *
            clear hya
            refine hK.out _ _ (held_3x h22 ga) (fun h25 => ?_)
            clear hK K
            try simp only [Act.put, List.setIfInBounds_toArray, List.set_cons_zero, List.set_cons_succ]
            refine wpAnyH_ready (rs := [6]) (by kernel_rfl) (by simp) ?_
            refine AllReadyH.cons rfl (fun K hK => ?_) AllReadyH.nil
            go_simp
            have hvb := Lib.hid (h25.2.2.2.size)
            have cp := iput_any b20 b21 b22 c20 c21 c22 xs ys zs _ I20_25.out I21_25.out I22_25.out
            rw [HRS.out] at cp
            refine cp.mono ?_
            rintro e y26 ⟨b26, c26, rfl, ho26, g26⟩
            have hne : Hid (∀ gq, (Value.slice b26 rs.length c26).ownBlock = some gq → gq ≠ y22.heap.size) := fun gq ee => by have := World.ownsRow.lt ho26 _ ee; have := T_25.out.lt; omega
            have HO := Lib.hid ho26
            clear ho26 cp
            have T_26 := Lib.hid (T_25.out.grown g26)
            go_wp2_with fail
            refine hK.out _ _ (held_3x h25 g26) (fun h26 => ?_)
            clear hK K
            try simp only [Act.put, List.setIfInBounds_toArray, List.set_cons_zero, List.set_cons_succ]
            refine wpAnyH_ready (rs := [8]) (by kernel_rfl) (by simp) ?_
            refine AllReadyH.cons rfl (fun K hK => ?_) AllReadyH.nil
            have n8 := T_26.out.cell
            have d8 := T_26.out.free
            have R := Lib.hid (put_fin T_26.out HO.out hne.out hvb.out hB25.out h26.2.2.2)
            have hs := held_set (v := .slice b26 rs.length c26) h26 hB25.out hs0.out hs1.out hs2.out
            go_simp
            refine hK.out _ _ hs (fun hz => ?_)
            clear hK K n8 d8 hs
            try simp only [Act.put, List.setIfInBounds_toArray, List.set_cons_zero, List.set_cons_succ]
            refine wpAnyH_done (by kernel_rfl) ?_ _
            refine NoPanic.normal ?_
            go_wp2_with fail
            go_meet
            case rel => exact R.out
        · have ga := World.grownBy_alloc y21 (.cells #[.slice none 0 0] 25) none
          have T_27 := Lib.hid (T1.new y21 (.slice none 0 0))
          have hB27 := Lib.hid (h21.2.2.2.size)
          have I20_27 := Lib.hid (I20_21.out.grown ga)
          have I21_27 := Lib.hid (I21.out.grown ga)
          go_simp
          generalize hya : y21.alloc (.cells #[.slice none 0 0] 25) = y27 at *
          clear hya
          refine hK.out _ _ (held_3x h21 ga) (fun h27 => ?_)
          clear hK K
          try simp only [Act.put, List.setIfInBounds_toArray, List.set_cons_zero, List.set_cons_succ]
          refine wpAnyH_ready (rs := [5]) (by kernel_rfl) (by simp) ?_
          refine AllReadyH.cons rfl (fun K hK => ?_) AllReadyH.nil
          go_simp
          refine (toT_any a2 cap2 zs (by have := hsum.out; omega) _ (ZB.out.grown h27.2.2.2)).mono ?_
          rintro e y28 ⟨b28, c28, rfl, ho28, g28⟩
          have I20_28 := Lib.hid (I20_27.out.grown g28)
          have I21_28 := Lib.hid (I21_27.out.grown g28)
          have I28 := Lib.hid (ho28.at mz.out)
          clear ho28
          have T_28 := Lib.hid (T_27.out.grown g28)
          go_wp2_with fail
          refine hK.out _ _ (held_3x h27 g28) (fun h28 => ?_)
          clear hK K
          try simp only [Act.put, List.setIfInBounds_toArray, List.set_cons_zero, List.set_cons_succ]
          refine wpAnyH_ready (rs := [6]) (by kernel_rfl) (by simp) ?_
          refine AllReadyH.cons rfl (fun K hK => ?_) AllReadyH.nil
          go_simp
          have hvb := Lib.hid (h28.2.2.2.size)
          have cp := iput_any b20 b21 b28 c20 c21 c28 xs ys zs _ I20_28.out I21_28.out I28.out
          rw [HRS.out] at cp
          refine cp.mono ?_
          rintro e y29 ⟨b29, c29, rfl, ho29, g29⟩
          have hne : Hid (∀ gq, (Value.slice b29 rs.length c29).ownBlock = some gq → gq ≠ y21.heap.size) := fun gq ee => by have := World.ownsRow.lt ho29 _ ee; have := T_28.out.lt; omega
          have HO := Lib.hid ho29
          clear ho29 cp
          have T_29 := Lib.hid (T_28.out.grown g29)
          go_wp2_with fail
          refine hK.out _ _ (held_3x h28 g29) (fun h29 => ?_)
          clear hK K
          try simp only [Act.put, List.setIfInBounds_toArray, List.set_cons_zero, List.set_cons_succ]
          refine wpAnyH_ready (rs := [8]) (by kernel_rfl) (by simp) ?_
          refine AllReadyH.cons rfl (fun K hK => ?_) AllReadyH.nil
          have n8 := T_29.out.cell
          have d8 := T_29.out.free
          have R := Lib.hid (put_fin T_29.out HO.out hne.out hvb.out hB27.out h29.2.2.2)
          have hs := held_set (v := .slice b29 rs.length c29) h29 hB27.out hs0.out hs1.out hs2.out
          go_simp
          refine hK.out _ _ hs (fun hz => ?_)
          clear hK K n8 d8 hs
          try simp only [Act.put, List.setIfInBounds_toArray, List.set_cons_zero, List.set_cons_succ]
          refine wpAnyH_done (by kernel_rfl) ?_ _
          refine NoPanic.normal ?_
          go_wp2_with fail
          go_meet
          case rel => exact R.out
      · have ga := World.grownBy_alloc y20 (.cells #[.slice none 0 0] 25) none
        have T_30 := Lib.hid (T1.new y20 (.slice none 0 0))
        have hB30 := Lib.hid (h20.2.2.2.size)
        have I20_30 := Lib.hid (I20.out.grown ga)
        go_simp
        generalize hya : y20.alloc (.cells #[.slice none 0 0] 25) = y30 at *
        clear hya
        refine hK.out _ _ (held_3x h20 ga) (fun h30 => ?_)
        clear hK K
        try simp only [Act.put, List.setIfInBounds_toArray, List.set_cons_zero, List.set_cons_succ]
        refine wpAnyH_ready (rs := [3]) (by kernel_rfl) (by simp) ?_
        refine AllReadyH.cons rfl (fun K hK => ?_) AllReadyH.nil
        go_simp
        refine (toT_any a1 cap1 ys (by have := hsum.out; omega) _ (YB.out.grown h30.2.2.2)).mono ?_
        rintro e y31 ⟨b31, c31, rfl, ho31, g31⟩
        have I20_31 := Lib.hid (I20_30.out.grown g31)
        have I31 := Lib.hid (ho31.at my.out)
        clear ho31
        have T_31 := Lib.hid (T_30.out.grown g31)
        go_wp2_with fail
        refine hK.out _ _ (held_3x h30 g31) (fun h31 => ?_)
        clear hK K
        try simp only [Act.put, List.setIfInBounds_toArray, List.set_cons_zero, List.set_cons_succ]
        refine wpAnyH_ready (rs := [5]) (by kernel_rfl) (by simp) ?_
        refine AllReadyH.cons rfl (fun K hK => ?_) AllReadyH.nil
        go_simp
        refine (toT_any a2 cap2 zs (by have := hsum.out; omega) _ (ZB.out.grown h31.2.2.2)).mono ?_
        rintro e y32 ⟨b32, c32, rfl, ho32, g32⟩
        have I20_32 := Lib.hid (I20_31.out.grown g32)
        have I31_32 := Lib.hid (I31.out.grown g32)
        have I32 := Lib.hid (ho32.at mz.out)
        clear ho32
        have T_32 := Lib.hid (T_31.out.grown g32)
        go_wp2_with fail
        refine hK.out _ _ (held_3x h31 g32) (fun h32 => ?_)
        clear hK K
        try simp only [Act.put, List.setIfInBounds_toArray, List.set_cons_zero, List.set_cons_succ]
        refine wpAnyH_ready (rs := [6]) (by kernel_rfl) (by simp) ?_
        refine AllReadyH.cons rfl (fun K hK => ?_) AllReadyH.nil
        go_simp
        have hvb := Lib.hid (h32.2.2.2.size)
        have cp := iput_any b20 b31 b32 c20 c31 c32 xs ys zs _ I20_32.out I31_32.out I32.out
        rw [HRS.out] at cp
        refine cp.mono ?_
        rintro e y33 ⟨b33, c33, rfl, ho33, g33⟩
        have hne : Hid (∀ gq, (Value.slice b33 rs.length c33).ownBlock = some gq → gq ≠ y20.heap.size) := fun gq ee => by have := World.ownsRow.lt ho33 _ ee; have := T_32.out.lt; omega
        have HO := Lib.hid ho33
        clear ho33 cp
        have T_33 := Lib.hid (T_32.out.grown g33)
        go_wp2_with fail
        refine hK.out _ _ (held_3x h32 g33) (fun h33 => ?_)
        clear hK K
        try simp only [Act.put, List.setIfInBounds_toArray, List.set_cons_zero, List.set_cons_succ]
        refine wpAnyH_ready (rs := [8]) (by kernel_rfl) (by simp) ?_
        refine AllReadyH.cons rfl (fun K hK => ?_) AllReadyH.nil
        have n8 := T_33.out.cell
        have d8 := T_33.out.free
        have R := Lib.hid (put_fin T_33.out HO.out hne.out hvb.out hB30.out h33.2.2.2)
        have hs := held_set (v := .slice b33 rs.length c33) h33 hB30.out hs0.out hs1.out hs2.out
        go_simp
        refine hK.out _ _ hs (fun hz => ?_)
        clear hK K n8 d8 hs
        try simp only [Act.put, List.setIfInBounds_toArray, List.set_cons_zero, List.set_cons_succ]
        refine wpAnyH_done (by kernel_rfl) ?_ _
        refine NoPanic.normal ?_
        go_wp2_with fail
        go_meet
        case rel => exact R.out
    · have ga := World.grownBy_alloc ud (.cells #[.slice none 0 0] 25) none
      have T_34 := Lib.hid (T1.new ud (.slice none 0 0))
      have hB34 := Lib.hid (hH.2.2.2.size)
      go_simp
      generalize hya : ud.alloc (.cells #[.slice none 0 0] 25) = y34 at *
      clear hya
      refine hK.out _ _ (held_3x hH ga) (fun h34 => ?_)
      clear hK K
      try simp only [Act.put, List.setIfInBounds_toArray, List.set_cons_zero, List.set_cons_succ]
      refine wpAnyH_ready (rs := [1]) (by kernel_rfl) (by simp) ?_
      refine AllReadyH.cons rfl (fun K hK => ?_) AllReadyH.nil
      go_simp
      refine (toT_any a0 cap0 xs (by have := hsum.out; omega) _ (XB.out.grown h34.2.2.2)).mono ?_
      rintro e y35 ⟨b35, c35, rfl, ho35, g35⟩
      have I35 := Lib.hid (ho35.at mx.out)
      clear ho35
      have T_35 := Lib.hid (T_34.out.grown g35)
      go_wp2_with fail
      refine hK.out _ _ (held_3x h34 g35) (fun h35 => ?_)
      clear hK K
      try simp only [Act.put, List.setIfInBounds_toArray, List.set_cons_zero, List.set_cons_succ]
      refine wpAnyH_ready (rs := [3]) (by kernel_rfl) (by simp) ?_
      refine AllReadyH.cons rfl (fun K hK => ?_) AllReadyH.nil
      go_simp
      refine (toT_any a1 cap1 ys (by have := hsum.out; omega) _ (YB.out.grown h35.2.2.2)).mono ?_
      rintro e y36 ⟨b36, c36, rfl, ho36, g36⟩
      have I35_36 := Lib.hid (I35.out.grown g36)
      have I36 := Lib.hid (ho36.at my.out)
      clear ho36
      have T_36 := Lib.hid (T_35.out.grown g36)
      go_wp2_with fail
      refine hK.out _ _ (held_3x h35 g36) (fun h36 => ?_)
      clear hK K
      try simp only [Act.put, List.setIfInBounds_toArray, List.set_cons_zero, List.set_cons_succ]
      refine wpAnyH_ready (rs := [5]) (by kernel_rfl) (by simp) ?_
      refine AllReadyH.cons rfl (fun K hK => ?_) AllReadyH.nil
      go_simp
      refine (toT_any a2 cap2 zs (by have := hsum.out; omega) _ (ZB.out.grown h36.2.2.2)).mono ?_
      rintro e y37 ⟨b37, c37, rfl, ho37, g37⟩
      have I35_37 := Lib.hid (I35_36.out.grown g37)
      have I36_37 := Lib.hid (I36.out.grown g37)
      have I37 := Lib.hid (ho37.at mz.out)
      clear ho37
      have T_37 := Lib.hid (T_36.out.grown g37)
      go_wp2_with fail
      refine hK.out _ _ (held_3x h36 g37) (fun h37 => ?_)
      clear hK K
      try simp only [Act.put, List.setIfInBounds_toArray, List.set_cons_zero, List.set_cons_succ]
      refine wpAnyH_ready (rs := [6]) (by kernel_rfl) (by simp) ?_
      refine AllReadyH.cons rfl (fun K hK => ?_) AllReadyH.nil
      go_simp
      have hvb := Lib.hid (h37.2.2.2.size)
      have cp := iput_any b35 b36 b37 c35 c36 c37 xs ys zs _ I35_37.out I36_37.out I37.out
      rw [HRS.out] at cp
      refine cp.mono ?_
      rintro e y38 ⟨b38, c38, rfl, ho38, g38⟩
      have hne : Hid (∀ gq, (Value.slice b38 rs.length c38).ownBlock = some gq → gq ≠ ud.heap.size) := fun gq ee => by have := World.ownsRow.lt ho38 _ ee; have := T_37.out.lt; omega
      have HO := Lib.hid ho38
      clear ho38 cp
      have T_38 := Lib.hid (T_37.out.grown g38)
      go_wp2_with fail
      refine hK.out _ _ (held_3x h37 g38) (fun h38 => ?_)
      clear hK K
      try simp only [Act.put, List.setIfInBounds_toArray, List.set_cons_zero, List.set_cons_succ]
      refine wpAnyH_ready (rs := [8]) (by kernel_rfl) (by simp) ?_
      refine AllReadyH.cons rfl (fun K hK => ?_) AllReadyH.nil
      have n8 := T_38.out.cell
      have d8 := T_38.out.free
      have R := Lib.hid (put_fin T_38.out HO.out hne.out hvb.out hB34.out h38.2.2.2)
      have hs := held_set (v := .slice b38 rs.length c38) h38 hB34.out hs0.out hs1.out hs2.out
      go_simp
      refine hK.out _ _ hs (fun hz => ?_)
      clear hK K n8 d8 hs
      try simp only [Act.put, List.setIfInBounds_toArray, List.set_cons_zero, List.set_cons_succ]
      refine wpAnyH_done (by kernel_rfl) ?_ _
      refine NoPanic.normal ?_
      go_wp2_with fail
      go_meet
      case rel => exact R.out
  case rest =>
  clear XB YB ZB CB0 CB1 CB2 hs0 hs1 hs2 hb
  obtain ⟨wu23, rfl⟩ : ∃ wu23, wu23 = wc := ⟨wc, rfl⟩
  obtain ⟨B16, e2, ce2, rfl, hT16, hO16, g23⟩ := hcut
  have PA := Lib.hid (P9.out.grown g23)
  have I16 := Lib.hid (hO16.at hrs9.out)
  have n16 := hT16.cell
  have n8 := PA.out.t8.cell
  clear hT16 hO16 g23
  go_wp2_with fail
  refine (eqT_any e2 e ce2 ce rs rs wu23 I16.out PA.out.ir).mono ?_
  rw [sameL_self]
  rintro ee wu24 ⟨rfl, g24⟩
  have PB := Lib.hid (PA.out.grown g24)
  clear g24 n16 n8
  have n12 := PB.out.t12.cell
  have hI : IntsAt wu24 g (marks 1 rs.length) := PB.out.o3.at (by rw [marks_len]; exact hrs9.out)
  have ch := heldT_any 1 (by omega) g rs.length cg (by have := hrl.out; omega) wu24 hI
  rw [HK4.out] at ch
  go_wp2_with fail
  refine ch.mono ?_
  rintro ee wu25 ⟨rfl, gh⟩
  have PC := Lib.hid (PB.out.grown gh)
  clear ch hI n12 gh
  go_wp2_with fail
  go_ret
  exact ⟨rfl, below_of (grownBy_trans G0.out PC.out.gr)⟩
end Go.Proofs.Ytbhfbpmfbknalaa
