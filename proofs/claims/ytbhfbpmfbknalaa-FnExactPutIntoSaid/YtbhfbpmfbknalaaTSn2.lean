/-
  The model's NamedTable, the other tables.
-/
import Derived.Test.YtbhfbpmfbknalaaTSz
namespace Go.Proofs.Ytbhfbpmfbknalaa
open Go.RowKit

set_option maxHeartbeats 4000000 in
theorem snam_3 (w : World) : Calls Try.prog 25 #[.int .i64 3] w (NamPost (namL 3) true w) := by
  obtain ⟨i0, hi, hz0, hz1, hz2⟩ := info_parts infoInt
  have hst := Lib.hid (sn_start (namK 3) w)
  have ci := fun w => in_any 3 0 5 w
  rw [inB_t (by omega)] at ci
  go_enter Try.func25, Try.ntmps25
  go_wp2_with fail
  go_loopw [5] (fun i wr => SnRel (namK 3) w i wr) (fun i _ => 9 - (intOf i).toNat)
  case atStart => exact hst.out
  case round =>
    obtain ⟨k, hk, rfl, a, cap, hT, hown, hZ, hgr⟩ := hrel
    by_cases hlt : k < 9
    · have hk9 : k = 0 ∨ k = 1 ∨ k = 2 ∨ k = 3 ∨ k = 4 ∨ k = 5 ∨ k = 6 ∨ k = 7 ∨ k = 8 := by omega
      have n1 := hT.cell
      have hl1 := hT.lt
      have hk2 := own_k hown
      rcases hk9 with rfl | rfl | rfl | rfl | rfl | rfl | rfl | rfl | rfl
      · have Hs := Lib.hid (fun w3 v' ho hg => sn_step (w3 := w3) (v' := v') (by omega : 0 < 9) hT hown hZ hgr ho hg)
        clear hown hZ hT
        go_wp2_with (first
          | (go_at_call 46; refine (ci _).mono ?_; rintro e w' ⟨rfl, rfl⟩)
          | (at_builtin; refine wpList_append_own _ rfl _ _ 23 rfl (w.heap.size + 2) 3 i0 (.int .i64 0) 1 8 Try.underlying23 hi hz0 hz1 hz2 rfl (by decide) _ _ _ rfl (World.ownsRow.alloc hk2 _) ⟨wr.heap.size, 0, none⟩ 1 1 [.int .i64 2] rfl rfl ?c1 ?c2 ?c3 ?c4 ?c5 ?_))
        case c1 =>
          intro j u hj
          match j, hj with
          | 0, hj => simp at hj; subst hj; simp [Addr.add]
        case c2 => intro u hu; simp at hu; subst hu; rfl
        case c3 => unfold maxLen; omega
        case c4 => omega
        case c5 => have := hgr.size; simp; omega
        intro v' w3 hown' hgrow _
        obtain ⟨a', cap', rfl, q1, q2, R⟩ := Hs.out w3 v' (by rw [lK_len]; exact hown') (by rw [lK_len]; exact grow_box hgrow)
        have HR := Lib.hid R
        clear R hown' hgrow hk2
        go_wp2
        go_roundw
        case rel => exact HR.out
        case measure => simp [intOf]
      · have Hs := Lib.hid (fun w3 v' ho hg => sn_step (w3 := w3) (v' := v') (by omega : 1 < 9) hT hown hZ hgr ho hg)
        clear hown hZ hT
        go_wp2_with (first
          | (go_at_call 46; refine (ci _).mono ?_; rintro e w' ⟨rfl, rfl⟩)
          | (at_builtin; refine wpList_append_own _ rfl _ _ 23 rfl (w.heap.size + 2) 3 i0 (.int .i64 0) 1 8 Try.underlying23 hi hz0 hz1 hz2 rfl (by decide) _ _ _ rfl (World.ownsRow.alloc hk2 _) ⟨wr.heap.size, 0, none⟩ 1 1 [.int .i64 2] rfl rfl ?c1 ?c2 ?c3 ?c4 ?c5 ?_))
        case c1 =>
          intro j u hj
          match j, hj with
          | 0, hj => simp at hj; subst hj; simp [Addr.add]
        case c2 => intro u hu; simp at hu; subst hu; rfl
        case c3 => unfold maxLen; omega
        case c4 => omega
        case c5 => have := hgr.size; simp; omega
        intro v' w3 hown' hgrow _
        obtain ⟨a', cap', rfl, q1, q2, R⟩ := Hs.out w3 v' (by rw [lK_len]; exact hown') (by rw [lK_len]; exact grow_box hgrow)
        have HR := Lib.hid R
        clear R hown' hgrow hk2
        go_wp2
        go_roundw
        case rel => exact HR.out
        case measure => simp [intOf]
      · have Hs := Lib.hid (fun w3 v' ho hg => sn_step (w3 := w3) (v' := v') (by omega : 2 < 9) hT hown hZ hgr ho hg)
        clear hown hZ hT
        go_wp2_with (first
          | (go_at_call 46; refine (ci _).mono ?_; rintro e w' ⟨rfl, rfl⟩)
          | (at_builtin; refine wpList_append_own _ rfl _ _ 23 rfl (w.heap.size + 2) 3 i0 (.int .i64 0) 1 8 Try.underlying23 hi hz0 hz1 hz2 rfl (by decide) _ _ _ rfl (World.ownsRow.alloc hk2 _) ⟨wr.heap.size, 0, none⟩ 1 1 [.int .i64 2] rfl rfl ?c1 ?c2 ?c3 ?c4 ?c5 ?_))
        case c1 =>
          intro j u hj
          match j, hj with
          | 0, hj => simp at hj; subst hj; simp [Addr.add]
        case c2 => intro u hu; simp at hu; subst hu; rfl
        case c3 => unfold maxLen; omega
        case c4 => omega
        case c5 => have := hgr.size; simp; omega
        intro v' w3 hown' hgrow _
        obtain ⟨a', cap', rfl, q1, q2, R⟩ := Hs.out w3 v' (by rw [lK_len]; exact hown') (by rw [lK_len]; exact grow_box hgrow)
        have HR := Lib.hid R
        clear R hown' hgrow hk2
        go_wp2
        go_roundw
        case rel => exact HR.out
        case measure => simp [intOf]
      · have Hs := Lib.hid (fun w3 v' ho hg => sn_step (w3 := w3) (v' := v') (by omega : 3 < 9) hT hown hZ hgr ho hg)
        clear hown hZ hT
        go_wp2_with (first
          | (go_at_call 46; refine (ci _).mono ?_; rintro e w' ⟨rfl, rfl⟩)
          | (at_builtin; refine wpList_append_own _ rfl _ _ 23 rfl (w.heap.size + 2) 3 i0 (.int .i64 0) 1 8 Try.underlying23 hi hz0 hz1 hz2 rfl (by decide) _ _ _ rfl (World.ownsRow.alloc hk2 _) ⟨wr.heap.size, 0, none⟩ 1 1 [.int .i64 1] rfl rfl ?c1 ?c2 ?c3 ?c4 ?c5 ?_))
        case c1 =>
          intro j u hj
          match j, hj with
          | 0, hj => simp at hj; subst hj; simp [Addr.add]
        case c2 => intro u hu; simp at hu; subst hu; rfl
        case c3 => unfold maxLen; omega
        case c4 => omega
        case c5 => have := hgr.size; simp; omega
        intro v' w3 hown' hgrow _
        obtain ⟨a', cap', rfl, q1, q2, R⟩ := Hs.out w3 v' (by rw [lK_len]; exact hown') (by rw [lK_len]; exact grow_box hgrow)
        have HR := Lib.hid R
        clear R hown' hgrow hk2
        go_wp2
        go_roundw
        case rel => exact HR.out
        case measure => simp [intOf]
      · have Hs := Lib.hid (fun w3 v' ho hg => sn_step (w3 := w3) (v' := v') (by omega : 4 < 9) hT hown hZ hgr ho hg)
        clear hown hZ hT
        go_wp2_with (first
          | (go_at_call 46; refine (ci _).mono ?_; rintro e w' ⟨rfl, rfl⟩)
          | (at_builtin; refine wpList_append_own _ rfl _ _ 23 rfl (w.heap.size + 2) 3 i0 (.int .i64 0) 1 8 Try.underlying23 hi hz0 hz1 hz2 rfl (by decide) _ _ _ rfl (World.ownsRow.alloc hk2 _) ⟨wr.heap.size, 0, none⟩ 1 1 [.int .i64 2] rfl rfl ?c1 ?c2 ?c3 ?c4 ?c5 ?_))
        case c1 =>
          intro j u hj
          match j, hj with
          | 0, hj => simp at hj; subst hj; simp [Addr.add]
        case c2 => intro u hu; simp at hu; subst hu; rfl
        case c3 => unfold maxLen; omega
        case c4 => omega
        case c5 => have := hgr.size; simp; omega
        intro v' w3 hown' hgrow _
        obtain ⟨a', cap', rfl, q1, q2, R⟩ := Hs.out w3 v' (by rw [lK_len]; exact hown') (by rw [lK_len]; exact grow_box hgrow)
        have HR := Lib.hid R
        clear R hown' hgrow hk2
        go_wp2
        go_roundw
        case rel => exact HR.out
        case measure => simp [intOf]
      · have Hs := Lib.hid (fun w3 v' ho hg => sn_step (w3 := w3) (v' := v') (by omega : 5 < 9) hT hown hZ hgr ho hg)
        clear hown hZ hT
        go_wp2_with (first
          | (go_at_call 46; refine (ci _).mono ?_; rintro e w' ⟨rfl, rfl⟩)
          | (at_builtin; refine wpList_append_own _ rfl _ _ 23 rfl (w.heap.size + 2) 3 i0 (.int .i64 0) 1 8 Try.underlying23 hi hz0 hz1 hz2 rfl (by decide) _ _ _ rfl (World.ownsRow.alloc hk2 _) ⟨wr.heap.size, 0, none⟩ 1 1 [.int .i64 2] rfl rfl ?c1 ?c2 ?c3 ?c4 ?c5 ?_))
        case c1 =>
          intro j u hj
          match j, hj with
          | 0, hj => simp at hj; subst hj; simp [Addr.add]
        case c2 => intro u hu; simp at hu; subst hu; rfl
        case c3 => unfold maxLen; omega
        case c4 => omega
        case c5 => have := hgr.size; simp; omega
        intro v' w3 hown' hgrow _
        obtain ⟨a', cap', rfl, q1, q2, R⟩ := Hs.out w3 v' (by rw [lK_len]; exact hown') (by rw [lK_len]; exact grow_box hgrow)
        have HR := Lib.hid R
        clear R hown' hgrow hk2
        go_wp2
        go_roundw
        case rel => exact HR.out
        case measure => simp [intOf]
      · have Hs := Lib.hid (fun w3 v' ho hg => sn_step (w3 := w3) (v' := v') (by omega : 6 < 9) hT hown hZ hgr ho hg)
        clear hown hZ hT
        go_wp2_with (first
          | (go_at_call 46; refine (ci _).mono ?_; rintro e w' ⟨rfl, rfl⟩)
          | (at_builtin; refine wpList_append_own _ rfl _ _ 23 rfl (w.heap.size + 2) 3 i0 (.int .i64 0) 1 8 Try.underlying23 hi hz0 hz1 hz2 rfl (by decide) _ _ _ rfl (World.ownsRow.alloc hk2 _) ⟨wr.heap.size, 0, none⟩ 1 1 [.int .i64 0] rfl rfl ?c1 ?c2 ?c3 ?c4 ?c5 ?_))
        case c1 =>
          intro j u hj
          match j, hj with
          | 0, hj => simp at hj; subst hj; simp [Addr.add]
        case c2 => intro u hu; simp at hu; subst hu; rfl
        case c3 => unfold maxLen; omega
        case c4 => omega
        case c5 => have := hgr.size; simp; omega
        intro v' w3 hown' hgrow _
        obtain ⟨a', cap', rfl, q1, q2, R⟩ := Hs.out w3 v' (by rw [lK_len]; exact hown') (by rw [lK_len]; exact grow_box hgrow)
        have HR := Lib.hid R
        clear R hown' hgrow hk2
        go_wp2
        go_roundw
        case rel => exact HR.out
        case measure => simp [intOf]
      · have Hs := Lib.hid (fun w3 v' ho hg => sn_step (w3 := w3) (v' := v') (by omega : 7 < 9) hT hown hZ hgr ho hg)
        clear hown hZ hT
        go_wp2_with (first
          | (go_at_call 46; refine (ci _).mono ?_; rintro e w' ⟨rfl, rfl⟩)
          | (at_builtin; refine wpList_append_own _ rfl _ _ 23 rfl (w.heap.size + 2) 3 i0 (.int .i64 0) 1 8 Try.underlying23 hi hz0 hz1 hz2 rfl (by decide) _ _ _ rfl (World.ownsRow.alloc hk2 _) ⟨wr.heap.size, 0, none⟩ 1 1 [.int .i64 1] rfl rfl ?c1 ?c2 ?c3 ?c4 ?c5 ?_))
        case c1 =>
          intro j u hj
          match j, hj with
          | 0, hj => simp at hj; subst hj; simp [Addr.add]
        case c2 => intro u hu; simp at hu; subst hu; rfl
        case c3 => unfold maxLen; omega
        case c4 => omega
        case c5 => have := hgr.size; simp; omega
        intro v' w3 hown' hgrow _
        obtain ⟨a', cap', rfl, q1, q2, R⟩ := Hs.out w3 v' (by rw [lK_len]; exact hown') (by rw [lK_len]; exact grow_box hgrow)
        have HR := Lib.hid R
        clear R hown' hgrow hk2
        go_wp2
        go_roundw
        case rel => exact HR.out
        case measure => simp [intOf]
      · have Hs := Lib.hid (fun w3 v' ho hg => sn_step (w3 := w3) (v' := v') (by omega : 8 < 9) hT hown hZ hgr ho hg)
        clear hown hZ hT
        go_wp2_with (first
          | (go_at_call 46; refine (ci _).mono ?_; rintro e w' ⟨rfl, rfl⟩)
          | (at_builtin; refine wpList_append_own _ rfl _ _ 23 rfl (w.heap.size + 2) 3 i0 (.int .i64 0) 1 8 Try.underlying23 hi hz0 hz1 hz2 rfl (by decide) _ _ _ rfl (World.ownsRow.alloc hk2 _) ⟨wr.heap.size, 0, none⟩ 1 1 [.int .i64 2] rfl rfl ?c1 ?c2 ?c3 ?c4 ?c5 ?_))
        case c1 =>
          intro j u hj
          match j, hj with
          | 0, hj => simp at hj; subst hj; simp [Addr.add]
        case c2 => intro u hu; simp at hu; subst hu; rfl
        case c3 => unfold maxLen; omega
        case c4 => omega
        case c5 => have := hgr.size; simp; omega
        intro v' w3 hown' hgrow _
        obtain ⟨a', cap', rfl, q1, q2, R⟩ := Hs.out w3 v' (by rw [lK_len]; exact hown') (by rw [lK_len]; exact grow_box hgrow)
        have HR := Lib.hid R
        clear R hown' hgrow hk2
        go_wp2
        go_roundw
        case rel => exact HR.out
        case measure => simp [intOf]
    · obtain rfl : k = 9 := by omega
      have n1 := hT.cell
      have n0 := hZ.cell
      have d0 := hZ.free
      have hO2 : OwnI (wr.drew.setCell ⟨w.heap.size, 0, none⟩ (.slice a 9 cap)) w.heap.size a cap (lT (namK 3)) := by
        refine own_lower (World.ownsRow.kept hown ((grownBy_trans (show wr.grownBy wr.drew (some w.heap.size) from ⟨rfl, rfl, rfl, Nat.le_refl _, fun _ _ _ => rfl⟩) (grownBy_set wr.drew w.heap.size 0 _))) (.inr fun e => ?_)) (by omega)
        have := World.ownsRow.lt hown _ e
        omega
      have HO := Lib.hid hO2
      have HG := Lib.hid (grow_at (grownBy_drew hgr) (grownBy_set wr.drew w.heap.size 0 (.slice a 9 cap)) (Nat.le_refl _))
      have HZ := Lib.hid (T1.set (w := wr.drew) (v := .slice a 9 cap) hZ)
      clear hT hown hZ hgr hO2
      go_wp2_with fail
      go_region
      go_wp2_with fail
      exact bodyPost_ret (resT2 rfl _ rfl rfl HZ.out) rfl ⟨a, cap, by rfl, HO.out, HG.out⟩

set_option maxHeartbeats 4000000 in
theorem snam_4 (w : World) : Calls Try.prog 25 #[.int .i64 4] w (NamPost (namL 4) true w) := by
  obtain ⟨i0, hi, hz0, hz1, hz2⟩ := info_parts infoInt
  have hst := Lib.hid (sn_start (namK 4) w)
  have ci := fun w => in_any 4 0 5 w
  rw [inB_t (by omega)] at ci
  go_enter Try.func25, Try.ntmps25
  go_wp2_with fail
  go_loopw [5] (fun i wr => SnRel (namK 4) w i wr) (fun i _ => 9 - (intOf i).toNat)
  case atStart => exact hst.out
  case round =>
    obtain ⟨k, hk, rfl, a, cap, hT, hown, hZ, hgr⟩ := hrel
    by_cases hlt : k < 9
    · have hk9 : k = 0 ∨ k = 1 ∨ k = 2 ∨ k = 3 ∨ k = 4 ∨ k = 5 ∨ k = 6 ∨ k = 7 ∨ k = 8 := by omega
      have n1 := hT.cell
      have hl1 := hT.lt
      have hk2 := own_k hown
      rcases hk9 with rfl | rfl | rfl | rfl | rfl | rfl | rfl | rfl | rfl
      · have Hs := Lib.hid (fun w3 v' ho hg => sn_step (w3 := w3) (v' := v') (by omega : 0 < 9) hT hown hZ hgr ho hg)
        clear hown hZ hT
        go_wp2_with (first
          | (go_at_call 46; refine (ci _).mono ?_; rintro e w' ⟨rfl, rfl⟩)
          | (at_builtin; refine wpList_append_own _ rfl _ _ 23 rfl (w.heap.size + 2) 3 i0 (.int .i64 0) 1 8 Try.underlying23 hi hz0 hz1 hz2 rfl (by decide) _ _ _ rfl (World.ownsRow.alloc hk2 _) ⟨wr.heap.size, 0, none⟩ 1 1 [.int .i64 2] rfl rfl ?c1 ?c2 ?c3 ?c4 ?c5 ?_))
        case c1 =>
          intro j u hj
          match j, hj with
          | 0, hj => simp at hj; subst hj; simp [Addr.add]
        case c2 => intro u hu; simp at hu; subst hu; rfl
        case c3 => unfold maxLen; omega
        case c4 => omega
        case c5 => have := hgr.size; simp; omega
        intro v' w3 hown' hgrow _
        obtain ⟨a', cap', rfl, q1, q2, R⟩ := Hs.out w3 v' (by rw [lK_len]; exact hown') (by rw [lK_len]; exact grow_box hgrow)
        have HR := Lib.hid R
        clear R hown' hgrow hk2
        go_wp2
        go_roundw
        case rel => exact HR.out
        case measure => simp [intOf]
      · have Hs := Lib.hid (fun w3 v' ho hg => sn_step (w3 := w3) (v' := v') (by omega : 1 < 9) hT hown hZ hgr ho hg)
        clear hown hZ hT
        go_wp2_with (first
          | (go_at_call 46; refine (ci _).mono ?_; rintro e w' ⟨rfl, rfl⟩)
          | (at_builtin; refine wpList_append_own _ rfl _ _ 23 rfl (w.heap.size + 2) 3 i0 (.int .i64 0) 1 8 Try.underlying23 hi hz0 hz1 hz2 rfl (by decide) _ _ _ rfl (World.ownsRow.alloc hk2 _) ⟨wr.heap.size, 0, none⟩ 1 1 [.int .i64 2] rfl rfl ?c1 ?c2 ?c3 ?c4 ?c5 ?_))
        case c1 =>
          intro j u hj
          match j, hj with
          | 0, hj => simp at hj; subst hj; simp [Addr.add]
        case c2 => intro u hu; simp at hu; subst hu; rfl
        case c3 => unfold maxLen; omega
        case c4 => omega
        case c5 => have := hgr.size; simp; omega
        intro v' w3 hown' hgrow _
        obtain ⟨a', cap', rfl, q1, q2, R⟩ := Hs.out w3 v' (by rw [lK_len]; exact hown') (by rw [lK_len]; exact grow_box hgrow)
        have HR := Lib.hid R
        clear R hown' hgrow hk2
        go_wp2
        go_roundw
        case rel => exact HR.out
        case measure => simp [intOf]
      · have Hs := Lib.hid (fun w3 v' ho hg => sn_step (w3 := w3) (v' := v') (by omega : 2 < 9) hT hown hZ hgr ho hg)
        clear hown hZ hT
        go_wp2_with (first
          | (go_at_call 46; refine (ci _).mono ?_; rintro e w' ⟨rfl, rfl⟩)
          | (at_builtin; refine wpList_append_own _ rfl _ _ 23 rfl (w.heap.size + 2) 3 i0 (.int .i64 0) 1 8 Try.underlying23 hi hz0 hz1 hz2 rfl (by decide) _ _ _ rfl (World.ownsRow.alloc hk2 _) ⟨wr.heap.size, 0, none⟩ 1 1 [.int .i64 2] rfl rfl ?c1 ?c2 ?c3 ?c4 ?c5 ?_))
        case c1 =>
          intro j u hj
          match j, hj with
          | 0, hj => simp at hj; subst hj; simp [Addr.add]
        case c2 => intro u hu; simp at hu; subst hu; rfl
        case c3 => unfold maxLen; omega
        case c4 => omega
        case c5 => have := hgr.size; simp; omega
        intro v' w3 hown' hgrow _
        obtain ⟨a', cap', rfl, q1, q2, R⟩ := Hs.out w3 v' (by rw [lK_len]; exact hown') (by rw [lK_len]; exact grow_box hgrow)
        have HR := Lib.hid R
        clear R hown' hgrow hk2
        go_wp2
        go_roundw
        case rel => exact HR.out
        case measure => simp [intOf]
      · have Hs := Lib.hid (fun w3 v' ho hg => sn_step (w3 := w3) (v' := v') (by omega : 3 < 9) hT hown hZ hgr ho hg)
        clear hown hZ hT
        go_wp2_with (first
          | (go_at_call 46; refine (ci _).mono ?_; rintro e w' ⟨rfl, rfl⟩)
          | (at_builtin; refine wpList_append_own _ rfl _ _ 23 rfl (w.heap.size + 2) 3 i0 (.int .i64 0) 1 8 Try.underlying23 hi hz0 hz1 hz2 rfl (by decide) _ _ _ rfl (World.ownsRow.alloc hk2 _) ⟨wr.heap.size, 0, none⟩ 1 1 [.int .i64 0] rfl rfl ?c1 ?c2 ?c3 ?c4 ?c5 ?_))
        case c1 =>
          intro j u hj
          match j, hj with
          | 0, hj => simp at hj; subst hj; simp [Addr.add]
        case c2 => intro u hu; simp at hu; subst hu; rfl
        case c3 => unfold maxLen; omega
        case c4 => omega
        case c5 => have := hgr.size; simp; omega
        intro v' w3 hown' hgrow _
        obtain ⟨a', cap', rfl, q1, q2, R⟩ := Hs.out w3 v' (by rw [lK_len]; exact hown') (by rw [lK_len]; exact grow_box hgrow)
        have HR := Lib.hid R
        clear R hown' hgrow hk2
        go_wp2
        go_roundw
        case rel => exact HR.out
        case measure => simp [intOf]
      · have Hs := Lib.hid (fun w3 v' ho hg => sn_step (w3 := w3) (v' := v') (by omega : 4 < 9) hT hown hZ hgr ho hg)
        clear hown hZ hT
        go_wp2_with (first
          | (go_at_call 46; refine (ci _).mono ?_; rintro e w' ⟨rfl, rfl⟩)
          | (at_builtin; refine wpList_append_own _ rfl _ _ 23 rfl (w.heap.size + 2) 3 i0 (.int .i64 0) 1 8 Try.underlying23 hi hz0 hz1 hz2 rfl (by decide) _ _ _ rfl (World.ownsRow.alloc hk2 _) ⟨wr.heap.size, 0, none⟩ 1 1 [.int .i64 2] rfl rfl ?c1 ?c2 ?c3 ?c4 ?c5 ?_))
        case c1 =>
          intro j u hj
          match j, hj with
          | 0, hj => simp at hj; subst hj; simp [Addr.add]
        case c2 => intro u hu; simp at hu; subst hu; rfl
        case c3 => unfold maxLen; omega
        case c4 => omega
        case c5 => have := hgr.size; simp; omega
        intro v' w3 hown' hgrow _
        obtain ⟨a', cap', rfl, q1, q2, R⟩ := Hs.out w3 v' (by rw [lK_len]; exact hown') (by rw [lK_len]; exact grow_box hgrow)
        have HR := Lib.hid R
        clear R hown' hgrow hk2
        go_wp2
        go_roundw
        case rel => exact HR.out
        case measure => simp [intOf]
      · have Hs := Lib.hid (fun w3 v' ho hg => sn_step (w3 := w3) (v' := v') (by omega : 5 < 9) hT hown hZ hgr ho hg)
        clear hown hZ hT
        go_wp2_with (first
          | (go_at_call 46; refine (ci _).mono ?_; rintro e w' ⟨rfl, rfl⟩)
          | (at_builtin; refine wpList_append_own _ rfl _ _ 23 rfl (w.heap.size + 2) 3 i0 (.int .i64 0) 1 8 Try.underlying23 hi hz0 hz1 hz2 rfl (by decide) _ _ _ rfl (World.ownsRow.alloc hk2 _) ⟨wr.heap.size, 0, none⟩ 1 1 [.int .i64 2] rfl rfl ?c1 ?c2 ?c3 ?c4 ?c5 ?_))
        case c1 =>
          intro j u hj
          match j, hj with
          | 0, hj => simp at hj; subst hj; simp [Addr.add]
        case c2 => intro u hu; simp at hu; subst hu; rfl
        case c3 => unfold maxLen; omega
        case c4 => omega
        case c5 => have := hgr.size; simp; omega
        intro v' w3 hown' hgrow _
        obtain ⟨a', cap', rfl, q1, q2, R⟩ := Hs.out w3 v' (by rw [lK_len]; exact hown') (by rw [lK_len]; exact grow_box hgrow)
        have HR := Lib.hid R
        clear R hown' hgrow hk2
        go_wp2
        go_roundw
        case rel => exact HR.out
        case measure => simp [intOf]
      · have Hs := Lib.hid (fun w3 v' ho hg => sn_step (w3 := w3) (v' := v') (by omega : 6 < 9) hT hown hZ hgr ho hg)
        clear hown hZ hT
        go_wp2_with (first
          | (go_at_call 46; refine (ci _).mono ?_; rintro e w' ⟨rfl, rfl⟩)
          | (at_builtin; refine wpList_append_own _ rfl _ _ 23 rfl (w.heap.size + 2) 3 i0 (.int .i64 0) 1 8 Try.underlying23 hi hz0 hz1 hz2 rfl (by decide) _ _ _ rfl (World.ownsRow.alloc hk2 _) ⟨wr.heap.size, 0, none⟩ 1 1 [.int .i64 0] rfl rfl ?c1 ?c2 ?c3 ?c4 ?c5 ?_))
        case c1 =>
          intro j u hj
          match j, hj with
          | 0, hj => simp at hj; subst hj; simp [Addr.add]
        case c2 => intro u hu; simp at hu; subst hu; rfl
        case c3 => unfold maxLen; omega
        case c4 => omega
        case c5 => have := hgr.size; simp; omega
        intro v' w3 hown' hgrow _
        obtain ⟨a', cap', rfl, q1, q2, R⟩ := Hs.out w3 v' (by rw [lK_len]; exact hown') (by rw [lK_len]; exact grow_box hgrow)
        have HR := Lib.hid R
        clear R hown' hgrow hk2
        go_wp2
        go_roundw
        case rel => exact HR.out
        case measure => simp [intOf]
      · have Hs := Lib.hid (fun w3 v' ho hg => sn_step (w3 := w3) (v' := v') (by omega : 7 < 9) hT hown hZ hgr ho hg)
        clear hown hZ hT
        go_wp2_with (first
          | (go_at_call 46; refine (ci _).mono ?_; rintro e w' ⟨rfl, rfl⟩)
          | (at_builtin; refine wpList_append_own _ rfl _ _ 23 rfl (w.heap.size + 2) 3 i0 (.int .i64 0) 1 8 Try.underlying23 hi hz0 hz1 hz2 rfl (by decide) _ _ _ rfl (World.ownsRow.alloc hk2 _) ⟨wr.heap.size, 0, none⟩ 1 1 [.int .i64 1] rfl rfl ?c1 ?c2 ?c3 ?c4 ?c5 ?_))
        case c1 =>
          intro j u hj
          match j, hj with
          | 0, hj => simp at hj; subst hj; simp [Addr.add]
        case c2 => intro u hu; simp at hu; subst hu; rfl
        case c3 => unfold maxLen; omega
        case c4 => omega
        case c5 => have := hgr.size; simp; omega
        intro v' w3 hown' hgrow _
        obtain ⟨a', cap', rfl, q1, q2, R⟩ := Hs.out w3 v' (by rw [lK_len]; exact hown') (by rw [lK_len]; exact grow_box hgrow)
        have HR := Lib.hid R
        clear R hown' hgrow hk2
        go_wp2
        go_roundw
        case rel => exact HR.out
        case measure => simp [intOf]
      · have Hs := Lib.hid (fun w3 v' ho hg => sn_step (w3 := w3) (v' := v') (by omega : 8 < 9) hT hown hZ hgr ho hg)
        clear hown hZ hT
        go_wp2_with (first
          | (go_at_call 46; refine (ci _).mono ?_; rintro e w' ⟨rfl, rfl⟩)
          | (at_builtin; refine wpList_append_own _ rfl _ _ 23 rfl (w.heap.size + 2) 3 i0 (.int .i64 0) 1 8 Try.underlying23 hi hz0 hz1 hz2 rfl (by decide) _ _ _ rfl (World.ownsRow.alloc hk2 _) ⟨wr.heap.size, 0, none⟩ 1 1 [.int .i64 2] rfl rfl ?c1 ?c2 ?c3 ?c4 ?c5 ?_))
        case c1 =>
          intro j u hj
          match j, hj with
          | 0, hj => simp at hj; subst hj; simp [Addr.add]
        case c2 => intro u hu; simp at hu; subst hu; rfl
        case c3 => unfold maxLen; omega
        case c4 => omega
        case c5 => have := hgr.size; simp; omega
        intro v' w3 hown' hgrow _
        obtain ⟨a', cap', rfl, q1, q2, R⟩ := Hs.out w3 v' (by rw [lK_len]; exact hown') (by rw [lK_len]; exact grow_box hgrow)
        have HR := Lib.hid R
        clear R hown' hgrow hk2
        go_wp2
        go_roundw
        case rel => exact HR.out
        case measure => simp [intOf]
    · obtain rfl : k = 9 := by omega
      have n1 := hT.cell
      have n0 := hZ.cell
      have d0 := hZ.free
      have hO2 : OwnI (wr.drew.setCell ⟨w.heap.size, 0, none⟩ (.slice a 9 cap)) w.heap.size a cap (lT (namK 4)) := by
        refine own_lower (World.ownsRow.kept hown ((grownBy_trans (show wr.grownBy wr.drew (some w.heap.size) from ⟨rfl, rfl, rfl, Nat.le_refl _, fun _ _ _ => rfl⟩) (grownBy_set wr.drew w.heap.size 0 _))) (.inr fun e => ?_)) (by omega)
        have := World.ownsRow.lt hown _ e
        omega
      have HO := Lib.hid hO2
      have HG := Lib.hid (grow_at (grownBy_drew hgr) (grownBy_set wr.drew w.heap.size 0 (.slice a 9 cap)) (Nat.le_refl _))
      have HZ := Lib.hid (T1.set (w := wr.drew) (v := .slice a 9 cap) hZ)
      clear hT hown hZ hgr hO2
      go_wp2_with fail
      go_region
      go_wp2_with fail
      exact bodyPost_ret (resT2 rfl _ rfl rfl HZ.out) rfl ⟨a, cap, by rfl, HO.out, HG.out⟩

set_option maxHeartbeats 4000000 in
theorem snam_5 (w : World) : Calls Try.prog 25 #[.int .i64 5] w (NamPost (namL 5) true w) := by
  obtain ⟨i0, hi, hz0, hz1, hz2⟩ := info_parts infoInt
  have hst := Lib.hid (sn_start (namK 5) w)
  have ci := fun w => in_any 5 0 5 w
  rw [inB_t (by omega)] at ci
  go_enter Try.func25, Try.ntmps25
  go_wp2_with fail
  go_loopw [5] (fun i wr => SnRel (namK 5) w i wr) (fun i _ => 9 - (intOf i).toNat)
  case atStart => exact hst.out
  case round =>
    obtain ⟨k, hk, rfl, a, cap, hT, hown, hZ, hgr⟩ := hrel
    by_cases hlt : k < 9
    · have hk9 : k = 0 ∨ k = 1 ∨ k = 2 ∨ k = 3 ∨ k = 4 ∨ k = 5 ∨ k = 6 ∨ k = 7 ∨ k = 8 := by omega
      have n1 := hT.cell
      have hl1 := hT.lt
      have hk2 := own_k hown
      rcases hk9 with rfl | rfl | rfl | rfl | rfl | rfl | rfl | rfl | rfl
      · have Hs := Lib.hid (fun w3 v' ho hg => sn_step (w3 := w3) (v' := v') (by omega : 0 < 9) hT hown hZ hgr ho hg)
        clear hown hZ hT
        go_wp2_with (first
          | (go_at_call 46; refine (ci _).mono ?_; rintro e w' ⟨rfl, rfl⟩)
          | (at_builtin; refine wpList_append_own _ rfl _ _ 23 rfl (w.heap.size + 2) 3 i0 (.int .i64 0) 1 8 Try.underlying23 hi hz0 hz1 hz2 rfl (by decide) _ _ _ rfl (World.ownsRow.alloc hk2 _) ⟨wr.heap.size, 0, none⟩ 1 1 [.int .i64 0] rfl rfl ?c1 ?c2 ?c3 ?c4 ?c5 ?_))
        case c1 =>
          intro j u hj
          match j, hj with
          | 0, hj => simp at hj; subst hj; simp [Addr.add]
        case c2 => intro u hu; simp at hu; subst hu; rfl
        case c3 => unfold maxLen; omega
        case c4 => omega
        case c5 => have := hgr.size; simp; omega
        intro v' w3 hown' hgrow _
        obtain ⟨a', cap', rfl, q1, q2, R⟩ := Hs.out w3 v' (by rw [lK_len]; exact hown') (by rw [lK_len]; exact grow_box hgrow)
        have HR := Lib.hid R
        clear R hown' hgrow hk2
        go_wp2
        go_roundw
        case rel => exact HR.out
        case measure => simp [intOf]
      · have Hs := Lib.hid (fun w3 v' ho hg => sn_step (w3 := w3) (v' := v') (by omega : 1 < 9) hT hown hZ hgr ho hg)
        clear hown hZ hT
        go_wp2_with (first
          | (go_at_call 46; refine (ci _).mono ?_; rintro e w' ⟨rfl, rfl⟩)
          | (at_builtin; refine wpList_append_own _ rfl _ _ 23 rfl (w.heap.size + 2) 3 i0 (.int .i64 0) 1 8 Try.underlying23 hi hz0 hz1 hz2 rfl (by decide) _ _ _ rfl (World.ownsRow.alloc hk2 _) ⟨wr.heap.size, 0, none⟩ 1 1 [.int .i64 1] rfl rfl ?c1 ?c2 ?c3 ?c4 ?c5 ?_))
        case c1 =>
          intro j u hj
          match j, hj with
          | 0, hj => simp at hj; subst hj; simp [Addr.add]
        case c2 => intro u hu; simp at hu; subst hu; rfl
        case c3 => unfold maxLen; omega
        case c4 => omega
        case c5 => have := hgr.size; simp; omega
        intro v' w3 hown' hgrow _
        obtain ⟨a', cap', rfl, q1, q2, R⟩ := Hs.out w3 v' (by rw [lK_len]; exact hown') (by rw [lK_len]; exact grow_box hgrow)
        have HR := Lib.hid R
        clear R hown' hgrow hk2
        go_wp2
        go_roundw
        case rel => exact HR.out
        case measure => simp [intOf]
      · have Hs := Lib.hid (fun w3 v' ho hg => sn_step (w3 := w3) (v' := v') (by omega : 2 < 9) hT hown hZ hgr ho hg)
        clear hown hZ hT
        go_wp2_with (first
          | (go_at_call 46; refine (ci _).mono ?_; rintro e w' ⟨rfl, rfl⟩)
          | (at_builtin; refine wpList_append_own _ rfl _ _ 23 rfl (w.heap.size + 2) 3 i0 (.int .i64 0) 1 8 Try.underlying23 hi hz0 hz1 hz2 rfl (by decide) _ _ _ rfl (World.ownsRow.alloc hk2 _) ⟨wr.heap.size, 0, none⟩ 1 1 [.int .i64 0] rfl rfl ?c1 ?c2 ?c3 ?c4 ?c5 ?_))
        case c1 =>
          intro j u hj
          match j, hj with
          | 0, hj => simp at hj; subst hj; simp [Addr.add]
        case c2 => intro u hu; simp at hu; subst hu; rfl
        case c3 => unfold maxLen; omega
        case c4 => omega
        case c5 => have := hgr.size; simp; omega
        intro v' w3 hown' hgrow _
        obtain ⟨a', cap', rfl, q1, q2, R⟩ := Hs.out w3 v' (by rw [lK_len]; exact hown') (by rw [lK_len]; exact grow_box hgrow)
        have HR := Lib.hid R
        clear R hown' hgrow hk2
        go_wp2
        go_roundw
        case rel => exact HR.out
        case measure => simp [intOf]
      · have Hs := Lib.hid (fun w3 v' ho hg => sn_step (w3 := w3) (v' := v') (by omega : 3 < 9) hT hown hZ hgr ho hg)
        clear hown hZ hT
        go_wp2_with (first
          | (go_at_call 46; refine (ci _).mono ?_; rintro e w' ⟨rfl, rfl⟩)
          | (at_builtin; refine wpList_append_own _ rfl _ _ 23 rfl (w.heap.size + 2) 3 i0 (.int .i64 0) 1 8 Try.underlying23 hi hz0 hz1 hz2 rfl (by decide) _ _ _ rfl (World.ownsRow.alloc hk2 _) ⟨wr.heap.size, 0, none⟩ 1 1 [.int .i64 1] rfl rfl ?c1 ?c2 ?c3 ?c4 ?c5 ?_))
        case c1 =>
          intro j u hj
          match j, hj with
          | 0, hj => simp at hj; subst hj; simp [Addr.add]
        case c2 => intro u hu; simp at hu; subst hu; rfl
        case c3 => unfold maxLen; omega
        case c4 => omega
        case c5 => have := hgr.size; simp; omega
        intro v' w3 hown' hgrow _
        obtain ⟨a', cap', rfl, q1, q2, R⟩ := Hs.out w3 v' (by rw [lK_len]; exact hown') (by rw [lK_len]; exact grow_box hgrow)
        have HR := Lib.hid R
        clear R hown' hgrow hk2
        go_wp2
        go_roundw
        case rel => exact HR.out
        case measure => simp [intOf]
      · have Hs := Lib.hid (fun w3 v' ho hg => sn_step (w3 := w3) (v' := v') (by omega : 4 < 9) hT hown hZ hgr ho hg)
        clear hown hZ hT
        go_wp2_with (first
          | (go_at_call 46; refine (ci _).mono ?_; rintro e w' ⟨rfl, rfl⟩)
          | (at_builtin; refine wpList_append_own _ rfl _ _ 23 rfl (w.heap.size + 2) 3 i0 (.int .i64 0) 1 8 Try.underlying23 hi hz0 hz1 hz2 rfl (by decide) _ _ _ rfl (World.ownsRow.alloc hk2 _) ⟨wr.heap.size, 0, none⟩ 1 1 [.int .i64 1] rfl rfl ?c1 ?c2 ?c3 ?c4 ?c5 ?_))
        case c1 =>
          intro j u hj
          match j, hj with
          | 0, hj => simp at hj; subst hj; simp [Addr.add]
        case c2 => intro u hu; simp at hu; subst hu; rfl
        case c3 => unfold maxLen; omega
        case c4 => omega
        case c5 => have := hgr.size; simp; omega
        intro v' w3 hown' hgrow _
        obtain ⟨a', cap', rfl, q1, q2, R⟩ := Hs.out w3 v' (by rw [lK_len]; exact hown') (by rw [lK_len]; exact grow_box hgrow)
        have HR := Lib.hid R
        clear R hown' hgrow hk2
        go_wp2
        go_roundw
        case rel => exact HR.out
        case measure => simp [intOf]
      · have Hs := Lib.hid (fun w3 v' ho hg => sn_step (w3 := w3) (v' := v') (by omega : 5 < 9) hT hown hZ hgr ho hg)
        clear hown hZ hT
        go_wp2_with (first
          | (go_at_call 46; refine (ci _).mono ?_; rintro e w' ⟨rfl, rfl⟩)
          | (at_builtin; refine wpList_append_own _ rfl _ _ 23 rfl (w.heap.size + 2) 3 i0 (.int .i64 0) 1 8 Try.underlying23 hi hz0 hz1 hz2 rfl (by decide) _ _ _ rfl (World.ownsRow.alloc hk2 _) ⟨wr.heap.size, 0, none⟩ 1 1 [.int .i64 1] rfl rfl ?c1 ?c2 ?c3 ?c4 ?c5 ?_))
        case c1 =>
          intro j u hj
          match j, hj with
          | 0, hj => simp at hj; subst hj; simp [Addr.add]
        case c2 => intro u hu; simp at hu; subst hu; rfl
        case c3 => unfold maxLen; omega
        case c4 => omega
        case c5 => have := hgr.size; simp; omega
        intro v' w3 hown' hgrow _
        obtain ⟨a', cap', rfl, q1, q2, R⟩ := Hs.out w3 v' (by rw [lK_len]; exact hown') (by rw [lK_len]; exact grow_box hgrow)
        have HR := Lib.hid R
        clear R hown' hgrow hk2
        go_wp2
        go_roundw
        case rel => exact HR.out
        case measure => simp [intOf]
      · have Hs := Lib.hid (fun w3 v' ho hg => sn_step (w3 := w3) (v' := v') (by omega : 6 < 9) hT hown hZ hgr ho hg)
        clear hown hZ hT
        go_wp2_with (first
          | (go_at_call 46; refine (ci _).mono ?_; rintro e w' ⟨rfl, rfl⟩)
          | (at_builtin; refine wpList_append_own _ rfl _ _ 23 rfl (w.heap.size + 2) 3 i0 (.int .i64 0) 1 8 Try.underlying23 hi hz0 hz1 hz2 rfl (by decide) _ _ _ rfl (World.ownsRow.alloc hk2 _) ⟨wr.heap.size, 0, none⟩ 1 1 [.int .i64 0] rfl rfl ?c1 ?c2 ?c3 ?c4 ?c5 ?_))
        case c1 =>
          intro j u hj
          match j, hj with
          | 0, hj => simp at hj; subst hj; simp [Addr.add]
        case c2 => intro u hu; simp at hu; subst hu; rfl
        case c3 => unfold maxLen; omega
        case c4 => omega
        case c5 => have := hgr.size; simp; omega
        intro v' w3 hown' hgrow _
        obtain ⟨a', cap', rfl, q1, q2, R⟩ := Hs.out w3 v' (by rw [lK_len]; exact hown') (by rw [lK_len]; exact grow_box hgrow)
        have HR := Lib.hid R
        clear R hown' hgrow hk2
        go_wp2
        go_roundw
        case rel => exact HR.out
        case measure => simp [intOf]
      · have Hs := Lib.hid (fun w3 v' ho hg => sn_step (w3 := w3) (v' := v') (by omega : 7 < 9) hT hown hZ hgr ho hg)
        clear hown hZ hT
        go_wp2_with (first
          | (go_at_call 46; refine (ci _).mono ?_; rintro e w' ⟨rfl, rfl⟩)
          | (at_builtin; refine wpList_append_own _ rfl _ _ 23 rfl (w.heap.size + 2) 3 i0 (.int .i64 0) 1 8 Try.underlying23 hi hz0 hz1 hz2 rfl (by decide) _ _ _ rfl (World.ownsRow.alloc hk2 _) ⟨wr.heap.size, 0, none⟩ 1 1 [.int .i64 1] rfl rfl ?c1 ?c2 ?c3 ?c4 ?c5 ?_))
        case c1 =>
          intro j u hj
          match j, hj with
          | 0, hj => simp at hj; subst hj; simp [Addr.add]
        case c2 => intro u hu; simp at hu; subst hu; rfl
        case c3 => unfold maxLen; omega
        case c4 => omega
        case c5 => have := hgr.size; simp; omega
        intro v' w3 hown' hgrow _
        obtain ⟨a', cap', rfl, q1, q2, R⟩ := Hs.out w3 v' (by rw [lK_len]; exact hown') (by rw [lK_len]; exact grow_box hgrow)
        have HR := Lib.hid R
        clear R hown' hgrow hk2
        go_wp2
        go_roundw
        case rel => exact HR.out
        case measure => simp [intOf]
      · have Hs := Lib.hid (fun w3 v' ho hg => sn_step (w3 := w3) (v' := v') (by omega : 8 < 9) hT hown hZ hgr ho hg)
        clear hown hZ hT
        go_wp2_with (first
          | (go_at_call 46; refine (ci _).mono ?_; rintro e w' ⟨rfl, rfl⟩)
          | (at_builtin; refine wpList_append_own _ rfl _ _ 23 rfl (w.heap.size + 2) 3 i0 (.int .i64 0) 1 8 Try.underlying23 hi hz0 hz1 hz2 rfl (by decide) _ _ _ rfl (World.ownsRow.alloc hk2 _) ⟨wr.heap.size, 0, none⟩ 1 1 [.int .i64 2] rfl rfl ?c1 ?c2 ?c3 ?c4 ?c5 ?_))
        case c1 =>
          intro j u hj
          match j, hj with
          | 0, hj => simp at hj; subst hj; simp [Addr.add]
        case c2 => intro u hu; simp at hu; subst hu; rfl
        case c3 => unfold maxLen; omega
        case c4 => omega
        case c5 => have := hgr.size; simp; omega
        intro v' w3 hown' hgrow _
        obtain ⟨a', cap', rfl, q1, q2, R⟩ := Hs.out w3 v' (by rw [lK_len]; exact hown') (by rw [lK_len]; exact grow_box hgrow)
        have HR := Lib.hid R
        clear R hown' hgrow hk2
        go_wp2
        go_roundw
        case rel => exact HR.out
        case measure => simp [intOf]
    · obtain rfl : k = 9 := by omega
      have n1 := hT.cell
      have n0 := hZ.cell
      have d0 := hZ.free
      have hO2 : OwnI (wr.drew.setCell ⟨w.heap.size, 0, none⟩ (.slice a 9 cap)) w.heap.size a cap (lT (namK 5)) := by
        refine own_lower (World.ownsRow.kept hown ((grownBy_trans (show wr.grownBy wr.drew (some w.heap.size) from ⟨rfl, rfl, rfl, Nat.le_refl _, fun _ _ _ => rfl⟩) (grownBy_set wr.drew w.heap.size 0 _))) (.inr fun e => ?_)) (by omega)
        have := World.ownsRow.lt hown _ e
        omega
      have HO := Lib.hid hO2
      have HG := Lib.hid (grow_at (grownBy_drew hgr) (grownBy_set wr.drew w.heap.size 0 (.slice a 9 cap)) (Nat.le_refl _))
      have HZ := Lib.hid (T1.set (w := wr.drew) (v := .slice a 9 cap) hZ)
      clear hT hown hZ hgr hO2
      go_wp2_with fail
      go_region
      go_wp2_with fail
      exact bodyPost_ret (resT2 rfl _ rfl rfl HZ.out) rfl ⟨a, cap, by rfl, HO.out, HG.out⟩


theorem snam_no (n : Int) (h : ¬ (0 ≤ n ∧ n ≤ 5)) (w : World) : Calls Try.prog 25 #[.int .i64 n] w (NamPost [] false w) := by
  have hst := Lib.hid (snz_start w)
  have ci := fun w => in_any n 0 5 w
  rw [inB_f (by omega)] at ci
  clear h
  go_enter Try.func25, Try.ntmps25
  go_wp2_with fail
  go_loopw [5] (fun i wr => SnZ w i wr) (fun i _ => 9 - (intOf i).toNat)
  case atStart => exact hst.out
  case round =>
    obtain ⟨rfl, hT, hZ, hgr⟩ := hrel
    have n1 := hT.cell
    have n0 := hZ.cell
    have d0 := hZ.free
    have HG := Lib.hid (grow_at (grownBy_drew hgr) (grownBy_set wr.drew w.heap.size 0 (.slice none 0 0)) (Nat.le_refl _))
    have HZ := Lib.hid (T1.set (w := wr.drew) (v := .slice none 0 0) hZ)
    clear hT hZ hgr
    go_wp2_with (go_at_call 46; refine (ci _).mono ?_; rintro e w' ⟨rfl, rfl⟩)
    go_region
    go_wp2_with fail
    exact bodyPost_ret (resT2 rfl _ rfl rfl HZ.out) rfl ⟨none, 0, rfl, OwnI.nil _ _, HG.out⟩

theorem snam_any (n : Int) (w : World) : Calls Try.prog 25 #[.int .i64 n] w (NamPost (namR n) (inN n) w) := by
  by_cases h : 0 ≤ n ∧ n ≤ 5
  · obtain ⟨m, rfl⟩ := Int.eq_ofNat_of_zero_le h.1
    have e : namR (m : Int) = namL m := if_pos h
    have e2 : inN (m : Int) = true := decide_eq_true h
    rw [e, e2]
    have hm : m < 6 := by omega
    match m, hm with
    | 0, _ => exact snam_0 w
    | 1, _ => exact snam_1 w
    | 2, _ => exact snam_2 w
    | 3, _ => exact snam_3 w
    | 4, _ => exact snam_4 w
    | 5, _ => exact snam_5 w
  · have e : namR n = [] := if_neg h
    have e2 : inN n = false := decide_eq_false h
    rw [e, e2]
    exact snam_no n h w

end Go.Proofs.Ytbhfbpmfbknalaa
