/-
  The model's NamedTable.
-/
import Derived.Test.YtbhfbpmfbknalaaTNm
import Derived.Test.YtbhfbpmfbknalaaTSpec
namespace Go.Proofs.Ytbhfbpmfbknalaa
open Go.RowKit

/-- The first k values. -/
def lK (F : Nat → Int) (k : Nat) : List Int := (List.range k).map F
theorem lK_len (F : Nat → Int) (k : Nat) : (lK F k).length = k := by simp [lK]
theorem lK_step (F : Nat → Int) (k : Nat) : lK F (k + 1) = lK F k ++ [F k] := by unfold lK; rw [List.range_succ, List.map_append]; rfl
theorem lK_9 (F : Nat → Int) : lK F 9 = lT F := rfl
theorem T1.kept {w w' : World} {B : Nat} {s : Value} {row : Option Nat} (h : T1 w B s) (g : w.grownBy w' row) (hne : some B ≠ row) : T1 w' B s := (g.block B h.lt hne).trans h

/-- Behind an append and the store of the new slice. -/
theorem ap_step {w wr w3 : World} {S : Nat} {s v' : Value} {a : Option Addr} {cap : Nat} {zs : List Int} {x : Int}
    (hT : T1 wr S s) (hS : w.heap.size ≤ S) (hown : OwnI wr (S + 1) a cap zs) (hg : w.grownBy wr none)
    (ho : w3.ownsRow (S + 1) 3 1 v' (zs.length + 1) (zs.map (Value.int .i64) ++ [.int .i64 x])) (hgr : wr.grownBy w3 (Value.slice a zs.length cap).ownBlock) :
    T1 w3 S s ∧ ∃ a' cap', v' = .slice a' (zs.length + 1) cap' ∧ T1 (w3.setCell ⟨S, 0, none⟩ v') S v' ∧ OwnI (w3.setCell ⟨S, 0, none⟩ v') (S + 1) a' cap' (zs ++ [x]) ∧ w.grownBy (w3.setCell ⟨S, 0, none⟩ v') none := by
  have hne : some S ≠ (Value.slice a zs.length cap).ownBlock := fun e => by
    have := World.ownsRow.lt hown S e.symm
    omega
  have hT3 := hT.kept hgr hne
  refine ⟨hT3, ?_⟩
  have e : zs.map (Value.int .i64) ++ [Value.int .i64 x] = (zs ++ [x]).map (Value.int .i64) := by simp
  rw [e] at ho
  obtain ⟨a', cap', rfl, _, hO⟩ := ownI_shape ho
  have hl : (zs ++ [x]).length = zs.length + 1 := by simp
  have hgs : w3.grownBy (w3.setCell ⟨S, 0, none⟩ (.slice a' (zs ++ [x]).length cap')) (some S) := grownBy_set w3 S 0 _
  refine ⟨a', cap', by rw [hl], hT3.set, World.ownsRow.kept hO hgs (.inr fun e => ?_), grow_at (grownBy_row hg hown (by omega) hgr) hgs hS⟩
  have := World.ownsRow.lt hO S e
  omega

def SnRel (F : Nat → Int) (w : World) (i : Value) (wr : World) : Prop :=
  ∃ k : Nat, k ≤ 9 ∧ i = .int .i64 k ∧ ∃ a cap, T1 wr (w.heap.size + 1) (.slice a k cap) ∧ OwnI wr (w.heap.size + 2) a cap (lK F k) ∧ T1 wr w.heap.size (.slice none 0 0) ∧ w.grownBy wr none
theorem sn_start (F : Nat → Int) (w : World) : SnRel F w (.int .i64 0) ((w.alloc (.cells #[.slice none 0 0] 25)).alloc (.cells #[.slice none 0 0] 25)) := by
  have t1 := T1.new w (.slice none 0 0)
  have g1 : w.grownBy (w.alloc (.cells #[.slice none 0 0] 25)) none := World.grownBy_alloc _ _ none
  have s1 : (w.alloc (.cells #[.slice none 0 0] 25)).heap.size = w.heap.size + 1 := by simp
  have t2 := T1.new (w.alloc (.cells #[.slice none 0 0] 25)) (.slice none 0 0)
  have g2 : (w.alloc (.cells #[.slice none 0 0] 25)).grownBy ((w.alloc (.cells #[.slice none 0 0] 25)).alloc (.cells #[.slice none 0 0] 25)) none := World.grownBy_alloc _ _ none
  rw [s1] at t2
  exact ⟨0, by omega, rfl, none, 0, t2, OwnI.nil _ _, t1.grown g2, grownBy_trans g1 g2⟩
/-- One round of the loop. -/
theorem sn_step {F : Nat → Int} {w wr w3 : World} {k : Nat} (hk : k < 9) {a : Option Addr} {cap : Nat} {v' : Value} (hT : T1 wr (w.heap.size + 1) (.slice a k cap)) (hown : OwnI wr (w.heap.size + 2) a cap (lK F k)) (hZ : T1 wr w.heap.size (.slice none 0 0)) (hg : w.grownBy wr none)
    (ho : w3.ownsRow (w.heap.size + 2) 3 1 v' ((lK F k).length + 1) ((lK F k).map (Value.int .i64) ++ [.int .i64 (F k)])) (hgr : wr.grownBy w3 (Value.slice a (lK F k).length cap).ownBlock) :
    ∃ a' cap', v' = .slice a' (k + 1) cap' ∧ w3.cell? ⟨w.heap.size + 1, 0, none⟩ = some (.slice a k cap) ∧ w3.frozen? ⟨w.heap.size + 1, 0, none⟩ = false ∧ SnRel F w (.int .i64 ((k + 1 : Nat) : Int)) (w3.setCell ⟨w.heap.size + 1, 0, none⟩ v') := by
  obtain ⟨h3, a', cap', rfl, h4, hO, hG⟩ := ap_step (x := F k) hT (by omega) hown hg ho hgr
  have hlt := hZ.lt
  rw [lK_len] at h4 hO hG ⊢
  refine ⟨a', cap', rfl, h3.cell, h3.free, k + 1, hk, rfl, a', cap', h4, by rw [lK_step]; exact hO, ?_, hG⟩
  have hne : some w.heap.size ≠ (Value.slice a (lK F k).length cap).ownBlock := fun e => by
    have := World.ownsRow.lt hown w.heap.size e.symm
    omega
  exact (hZ.kept hgr hne).kept (grownBy_set w3 (w.heap.size + 1) 0 _) (by simp)
theorem own_k {F : Nat → Int} {wr : World} {base : Nat} {a : Option Addr} {cap k : Nat} (h : OwnI wr base a cap (lK F k)) : wr.ownsRow base 3 1 (.slice a k cap) k ((lK F k).map (Value.int .i64)) := by
  have := h
  unfold OwnI at this
  rwa [lK_len] at this

set_option maxHeartbeats 4000000 in
theorem snam_0 (w : World) : Calls Try.prog 25 #[.int .i64 0] w (NamPost (namL 0) true w) := by
  obtain ⟨i0, hi, hz0, hz1, hz2⟩ := info_parts infoInt
  have hst := Lib.hid (sn_start (namK 0) w)
  have ci := fun w => in_any 0 0 5 w
  rw [inB_t (by omega)] at ci
  go_enter Try.func25, Try.ntmps25
  go_wp2_with fail
  go_loopw [5] (fun i wr => SnRel (namK 0) w i wr) (fun i _ => 9 - (intOf i).toNat)
  case atStart => exact hst.out
  case round =>
    obtain ⟨k, hk, rfl, a, cap, hT, hown, hZ, hgr⟩ := hrel
    by_cases hlt : k < 9
    · have hk9 : k = 0 ∨ k = 1 ∨ k = 2 ∨ k = 3 ∨ k = 4 ∨ k = 5 ∨ k = 6 ∨ k = 7 ∨ k = 8 := by omega
      have n1 := hT.cell
      have hl1 := hT.lt
      have hk2 := own_k hown
      rcases hk9 with rfl | rfl | rfl | rfl | rfl | rfl | rfl | rfl | rfl
      · have Hs := Lib.hid (fun w3 v' ho hg => sn_step (w3 := w3) (v' := v') (by omega : 0 < 9) hT hown hZ hgr ho hg)
        clear hown hZ hT
        go_wp2_with (first
          | (go_at_call 46; refine (ci _).mono ?_; rintro e w' ⟨rfl, rfl⟩)
          | (at_builtin; refine wpList_append_own _ rfl _ _ 23 rfl (w.heap.size + 2) 3 i0 (.int .i64 0) 1 8 Try.underlying23 hi hz0 hz1 hz2 rfl (by decide) _ _ _ rfl (World.ownsRow.alloc hk2 _) ⟨wr.heap.size, 0, none⟩ 1 1 [.int .i64 0] rfl rfl ?c1 ?c2 ?c3 ?c4 ?c5 ?_))
        case c1 =>
          intro j u hj
          match j, hj with
          | 0, hj => simp at hj; subst hj; simp [Addr.add]
        case c2 => intro u hu; simp at hu; subst hu; rfl
        case c3 => unfold maxLen; omega
        case c4 => omega
        case c5 => have := hgr.size; simp; omega
        intro v' w3 hown' hgrow _
        obtain ⟨a', cap', rfl, q1, q2, R⟩ := Hs.out w3 v' (by rw [lK_len]; exact hown') (by rw [lK_len]; exact grow_box hgrow)
        have HR := Lib.hid R
        clear R hown' hgrow hk2
        go_wp2
        go_roundw
        case rel => exact HR.out
        case measure => simp [intOf]
      · have Hs := Lib.hid (fun w3 v' ho hg => sn_step (w3 := w3) (v' := v') (by omega : 1 < 9) hT hown hZ hgr ho hg)
        clear hown hZ hT
        go_wp2_with (first
          | (go_at_call 46; refine (ci _).mono ?_; rintro e w' ⟨rfl, rfl⟩)
          | (at_builtin; refine wpList_append_own _ rfl _ _ 23 rfl (w.heap.size + 2) 3 i0 (.int .i64 0) 1 8 Try.underlying23 hi hz0 hz1 hz2 rfl (by decide) _ _ _ rfl (World.ownsRow.alloc hk2 _) ⟨wr.heap.size, 0, none⟩ 1 1 [.int .i64 0] rfl rfl ?c1 ?c2 ?c3 ?c4 ?c5 ?_))
        case c1 =>
          intro j u hj
          match j, hj with
          | 0, hj => simp at hj; subst hj; simp [Addr.add]
        case c2 => intro u hu; simp at hu; subst hu; rfl
        case c3 => unfold maxLen; omega
        case c4 => omega
        case c5 => have := hgr.size; simp; omega
        intro v' w3 hown' hgrow _
        obtain ⟨a', cap', rfl, q1, q2, R⟩ := Hs.out w3 v' (by rw [lK_len]; exact hown') (by rw [lK_len]; exact grow_box hgrow)
        have HR := Lib.hid R
        clear R hown' hgrow hk2
        go_wp2
        go_roundw
        case rel => exact HR.out
        case measure => simp [intOf]
      · have Hs := Lib.hid (fun w3 v' ho hg => sn_step (w3 := w3) (v' := v') (by omega : 2 < 9) hT hown hZ hgr ho hg)
        clear hown hZ hT
        go_wp2_with (first
          | (go_at_call 46; refine (ci _).mono ?_; rintro e w' ⟨rfl, rfl⟩)
          | (at_builtin; refine wpList_append_own _ rfl _ _ 23 rfl (w.heap.size + 2) 3 i0 (.int .i64 0) 1 8 Try.underlying23 hi hz0 hz1 hz2 rfl (by decide) _ _ _ rfl (World.ownsRow.alloc hk2 _) ⟨wr.heap.size, 0, none⟩ 1 1 [.int .i64 0] rfl rfl ?c1 ?c2 ?c3 ?c4 ?c5 ?_))
        case c1 =>
          intro j u hj
          match j, hj with
          | 0, hj => simp at hj; subst hj; simp [Addr.add]
        case c2 => intro u hu; simp at hu; subst hu; rfl
        case c3 => unfold maxLen; omega
        case c4 => omega
        case c5 => have := hgr.size; simp; omega
        intro v' w3 hown' hgrow _
        obtain ⟨a', cap', rfl, q1, q2, R⟩ := Hs.out w3 v' (by rw [lK_len]; exact hown') (by rw [lK_len]; exact grow_box hgrow)
        have HR := Lib.hid R
        clear R hown' hgrow hk2
        go_wp2
        go_roundw
        case rel => exact HR.out
        case measure => simp [intOf]
      · have Hs := Lib.hid (fun w3 v' ho hg => sn_step (w3 := w3) (v' := v') (by omega : 3 < 9) hT hown hZ hgr ho hg)
        clear hown hZ hT
        go_wp2_with (first
          | (go_at_call 46; refine (ci _).mono ?_; rintro e w' ⟨rfl, rfl⟩)
          | (at_builtin; refine wpList_append_own _ rfl _ _ 23 rfl (w.heap.size + 2) 3 i0 (.int .i64 0) 1 8 Try.underlying23 hi hz0 hz1 hz2 rfl (by decide) _ _ _ rfl (World.ownsRow.alloc hk2 _) ⟨wr.heap.size, 0, none⟩ 1 1 [.int .i64 0] rfl rfl ?c1 ?c2 ?c3 ?c4 ?c5 ?_))
        case c1 =>
          intro j u hj
          match j, hj with
          | 0, hj => simp at hj; subst hj; simp [Addr.add]
        case c2 => intro u hu; simp at hu; subst hu; rfl
        case c3 => unfold maxLen; omega
        case c4 => omega
        case c5 => have := hgr.size; simp; omega
        intro v' w3 hown' hgrow _
        obtain ⟨a', cap', rfl, q1, q2, R⟩ := Hs.out w3 v' (by rw [lK_len]; exact hown') (by rw [lK_len]; exact grow_box hgrow)
        have HR := Lib.hid R
        clear R hown' hgrow hk2
        go_wp2
        go_roundw
        case rel => exact HR.out
        case measure => simp [intOf]
      · have Hs := Lib.hid (fun w3 v' ho hg => sn_step (w3 := w3) (v' := v') (by omega : 4 < 9) hT hown hZ hgr ho hg)
        clear hown hZ hT
        go_wp2_with (first
          | (go_at_call 46; refine (ci _).mono ?_; rintro e w' ⟨rfl, rfl⟩)
          | (at_builtin; refine wpList_append_own _ rfl _ _ 23 rfl (w.heap.size + 2) 3 i0 (.int .i64 0) 1 8 Try.underlying23 hi hz0 hz1 hz2 rfl (by decide) _ _ _ rfl (World.ownsRow.alloc hk2 _) ⟨wr.heap.size, 0, none⟩ 1 1 [.int .i64 1] rfl rfl ?c1 ?c2 ?c3 ?c4 ?c5 ?_))
        case c1 =>
          intro j u hj
          match j, hj with
          | 0, hj => simp at hj; subst hj; simp [Addr.add]
        case c2 => intro u hu; simp at hu; subst hu; rfl
        case c3 => unfold maxLen; omega
        case c4 => omega
        case c5 => have := hgr.size; simp; omega
        intro v' w3 hown' hgrow _
        obtain ⟨a', cap', rfl, q1, q2, R⟩ := Hs.out w3 v' (by rw [lK_len]; exact hown') (by rw [lK_len]; exact grow_box hgrow)
        have HR := Lib.hid R
        clear R hown' hgrow hk2
        go_wp2
        go_roundw
        case rel => exact HR.out
        case measure => simp [intOf]
      · have Hs := Lib.hid (fun w3 v' ho hg => sn_step (w3 := w3) (v' := v') (by omega : 5 < 9) hT hown hZ hgr ho hg)
        clear hown hZ hT
        go_wp2_with (first
          | (go_at_call 46; refine (ci _).mono ?_; rintro e w' ⟨rfl, rfl⟩)
          | (at_builtin; refine wpList_append_own _ rfl _ _ 23 rfl (w.heap.size + 2) 3 i0 (.int .i64 0) 1 8 Try.underlying23 hi hz0 hz1 hz2 rfl (by decide) _ _ _ rfl (World.ownsRow.alloc hk2 _) ⟨wr.heap.size, 0, none⟩ 1 1 [.int .i64 1] rfl rfl ?c1 ?c2 ?c3 ?c4 ?c5 ?_))
        case c1 =>
          intro j u hj
          match j, hj with
          | 0, hj => simp at hj; subst hj; simp [Addr.add]
        case c2 => intro u hu; simp at hu; subst hu; rfl
        case c3 => unfold maxLen; omega
        case c4 => omega
        case c5 => have := hgr.size; simp; omega
        intro v' w3 hown' hgrow _
        obtain ⟨a', cap', rfl, q1, q2, R⟩ := Hs.out w3 v' (by rw [lK_len]; exact hown') (by rw [lK_len]; exact grow_box hgrow)
        have HR := Lib.hid R
        clear R hown' hgrow hk2
        go_wp2
        go_roundw
        case rel => exact HR.out
        case measure => simp [intOf]
      · have Hs := Lib.hid (fun w3 v' ho hg => sn_step (w3 := w3) (v' := v') (by omega : 6 < 9) hT hown hZ hgr ho hg)
        clear hown hZ hT
        go_wp2_with (first
          | (go_at_call 46; refine (ci _).mono ?_; rintro e w' ⟨rfl, rfl⟩)
          | (at_builtin; refine wpList_append_own _ rfl _ _ 23 rfl (w.heap.size + 2) 3 i0 (.int .i64 0) 1 8 Try.underlying23 hi hz0 hz1 hz2 rfl (by decide) _ _ _ rfl (World.ownsRow.alloc hk2 _) ⟨wr.heap.size, 0, none⟩ 1 1 [.int .i64 0] rfl rfl ?c1 ?c2 ?c3 ?c4 ?c5 ?_))
        case c1 =>
          intro j u hj
          match j, hj with
          | 0, hj => simp at hj; subst hj; simp [Addr.add]
        case c2 => intro u hu; simp at hu; subst hu; rfl
        case c3 => unfold maxLen; omega
        case c4 => omega
        case c5 => have := hgr.size; simp; omega
        intro v' w3 hown' hgrow _
        obtain ⟨a', cap', rfl, q1, q2, R⟩ := Hs.out w3 v' (by rw [lK_len]; exact hown') (by rw [lK_len]; exact grow_box hgrow)
        have HR := Lib.hid R
        clear R hown' hgrow hk2
        go_wp2
        go_roundw
        case rel => exact HR.out
        case measure => simp [intOf]
      · have Hs := Lib.hid (fun w3 v' ho hg => sn_step (w3 := w3) (v' := v') (by omega : 7 < 9) hT hown hZ hgr ho hg)
        clear hown hZ hT
        go_wp2_with (first
          | (go_at_call 46; refine (ci _).mono ?_; rintro e w' ⟨rfl, rfl⟩)
          | (at_builtin; refine wpList_append_own _ rfl _ _ 23 rfl (w.heap.size + 2) 3 i0 (.int .i64 0) 1 8 Try.underlying23 hi hz0 hz1 hz2 rfl (by decide) _ _ _ rfl (World.ownsRow.alloc hk2 _) ⟨wr.heap.size, 0, none⟩ 1 1 [.int .i64 1] rfl rfl ?c1 ?c2 ?c3 ?c4 ?c5 ?_))
        case c1 =>
          intro j u hj
          match j, hj with
          | 0, hj => simp at hj; subst hj; simp [Addr.add]
        case c2 => intro u hu; simp at hu; subst hu; rfl
        case c3 => unfold maxLen; omega
        case c4 => omega
        case c5 => have := hgr.size; simp; omega
        intro v' w3 hown' hgrow _
        obtain ⟨a', cap', rfl, q1, q2, R⟩ := Hs.out w3 v' (by rw [lK_len]; exact hown') (by rw [lK_len]; exact grow_box hgrow)
        have HR := Lib.hid R
        clear R hown' hgrow hk2
        go_wp2
        go_roundw
        case rel => exact HR.out
        case measure => simp [intOf]
      · have Hs := Lib.hid (fun w3 v' ho hg => sn_step (w3 := w3) (v' := v') (by omega : 8 < 9) hT hown hZ hgr ho hg)
        clear hown hZ hT
        go_wp2_with (first
          | (go_at_call 46; refine (ci _).mono ?_; rintro e w' ⟨rfl, rfl⟩)
          | (at_builtin; refine wpList_append_own _ rfl _ _ 23 rfl (w.heap.size + 2) 3 i0 (.int .i64 0) 1 8 Try.underlying23 hi hz0 hz1 hz2 rfl (by decide) _ _ _ rfl (World.ownsRow.alloc hk2 _) ⟨wr.heap.size, 0, none⟩ 1 1 [.int .i64 2] rfl rfl ?c1 ?c2 ?c3 ?c4 ?c5 ?_))
        case c1 =>
          intro j u hj
          match j, hj with
          | 0, hj => simp at hj; subst hj; simp [Addr.add]
        case c2 => intro u hu; simp at hu; subst hu; rfl
        case c3 => unfold maxLen; omega
        case c4 => omega
        case c5 => have := hgr.size; simp; omega
        intro v' w3 hown' hgrow _
        obtain ⟨a', cap', rfl, q1, q2, R⟩ := Hs.out w3 v' (by rw [lK_len]; exact hown') (by rw [lK_len]; exact grow_box hgrow)
        have HR := Lib.hid R
        clear R hown' hgrow hk2
        go_wp2
        go_roundw
        case rel => exact HR.out
        case measure => simp [intOf]
    · obtain rfl : k = 9 := by omega
      have n1 := hT.cell
      have n0 := hZ.cell
      have d0 := hZ.free
      have hO2 : OwnI (wr.drew.setCell ⟨w.heap.size, 0, none⟩ (.slice a 9 cap)) w.heap.size a cap (lT (namK 0)) := by
        refine own_lower (World.ownsRow.kept hown ((grownBy_trans (show wr.grownBy wr.drew (some w.heap.size) from ⟨rfl, rfl, rfl, Nat.le_refl _, fun _ _ _ => rfl⟩) (grownBy_set wr.drew w.heap.size 0 _))) (.inr fun e => ?_)) (by omega)
        have := World.ownsRow.lt hown _ e
        omega
      have HO := Lib.hid hO2
      have HG := Lib.hid (grow_at (grownBy_drew hgr) (grownBy_set wr.drew w.heap.size 0 (.slice a 9 cap)) (Nat.le_refl _))
      have HZ := Lib.hid (T1.set (w := wr.drew) (v := .slice a 9 cap) hZ)
      clear hT hown hZ hgr hO2
      go_wp2_with fail
      go_region
      go_wp2_with fail
      exact bodyPost_ret (resT2 rfl _ rfl rfl HZ.out) rfl ⟨a, cap, by rfl, HO.out, HG.out⟩

set_option maxHeartbeats 4000000 in
theorem snam_1 (w : World) : Calls Try.prog 25 #[.int .i64 1] w (NamPost (namL 1) true w) := by
  obtain ⟨i0, hi, hz0, hz1, hz2⟩ := info_parts infoInt
  have hst := Lib.hid (sn_start (namK 1) w)
  have ci := fun w => in_any 1 0 5 w
  rw [inB_t (by omega)] at ci
  go_enter Try.func25, Try.ntmps25
  go_wp2_with fail
  go_loopw [5] (fun i wr => SnRel (namK 1) w i wr) (fun i _ => 9 - (intOf i).toNat)
  case atStart => exact hst.out
  case round =>
    obtain ⟨k, hk, rfl, a, cap, hT, hown, hZ, hgr⟩ := hrel
    by_cases hlt : k < 9
    · have hk9 : k = 0 ∨ k = 1 ∨ k = 2 ∨ k = 3 ∨ k = 4 ∨ k = 5 ∨ k = 6 ∨ k = 7 ∨ k = 8 := by omega
      have n1 := hT.cell
      have hl1 := hT.lt
      have hk2 := own_k hown
      rcases hk9 with rfl | rfl | rfl | rfl | rfl | rfl | rfl | rfl | rfl
      · have Hs := Lib.hid (fun w3 v' ho hg => sn_step (w3 := w3) (v' := v') (by omega : 0 < 9) hT hown hZ hgr ho hg)
        clear hown hZ hT
        go_wp2_with (first
          | (go_at_call 46; refine (ci _).mono ?_; rintro e w' ⟨rfl, rfl⟩)
          | (at_builtin; refine wpList_append_own _ rfl _ _ 23 rfl (w.heap.size + 2) 3 i0 (.int .i64 0) 1 8 Try.underlying23 hi hz0 hz1 hz2 rfl (by decide) _ _ _ rfl (World.ownsRow.alloc hk2 _) ⟨wr.heap.size, 0, none⟩ 1 1 [.int .i64 0] rfl rfl ?c1 ?c2 ?c3 ?c4 ?c5 ?_))
        case c1 =>
          intro j u hj
          match j, hj with
          | 0, hj => simp at hj; subst hj; simp [Addr.add]
        case c2 => intro u hu; simp at hu; subst hu; rfl
        case c3 => unfold maxLen; omega
        case c4 => omega
        case c5 => have := hgr.size; simp; omega
        intro v' w3 hown' hgrow _
        obtain ⟨a', cap', rfl, q1, q2, R⟩ := Hs.out w3 v' (by rw [lK_len]; exact hown') (by rw [lK_len]; exact grow_box hgrow)
        have HR := Lib.hid R
        clear R hown' hgrow hk2
        go_wp2
        go_roundw
        case rel => exact HR.out
        case measure => simp [intOf]
      · have Hs := Lib.hid (fun w3 v' ho hg => sn_step (w3 := w3) (v' := v') (by omega : 1 < 9) hT hown hZ hgr ho hg)
        clear hown hZ hT
        go_wp2_with (first
          | (go_at_call 46; refine (ci _).mono ?_; rintro e w' ⟨rfl, rfl⟩)
          | (at_builtin; refine wpList_append_own _ rfl _ _ 23 rfl (w.heap.size + 2) 3 i0 (.int .i64 0) 1 8 Try.underlying23 hi hz0 hz1 hz2 rfl (by decide) _ _ _ rfl (World.ownsRow.alloc hk2 _) ⟨wr.heap.size, 0, none⟩ 1 1 [.int .i64 1] rfl rfl ?c1 ?c2 ?c3 ?c4 ?c5 ?_))
        case c1 =>
          intro j u hj
          match j, hj with
          | 0, hj => simp at hj; subst hj; simp [Addr.add]
        case c2 => intro u hu; simp at hu; subst hu; rfl
        case c3 => unfold maxLen; omega
        case c4 => omega
        case c5 => have := hgr.size; simp; omega
        intro v' w3 hown' hgrow _
        obtain ⟨a', cap', rfl, q1, q2, R⟩ := Hs.out w3 v' (by rw [lK_len]; exact hown') (by rw [lK_len]; exact grow_box hgrow)
        have HR := Lib.hid R
        clear R hown' hgrow hk2
        go_wp2
        go_roundw
        case rel => exact HR.out
        case measure => simp [intOf]
      · have Hs := Lib.hid (fun w3 v' ho hg => sn_step (w3 := w3) (v' := v') (by omega : 2 < 9) hT hown hZ hgr ho hg)
        clear hown hZ hT
        go_wp2_with (first
          | (go_at_call 46; refine (ci _).mono ?_; rintro e w' ⟨rfl, rfl⟩)
          | (at_builtin; refine wpList_append_own _ rfl _ _ 23 rfl (w.heap.size + 2) 3 i0 (.int .i64 0) 1 8 Try.underlying23 hi hz0 hz1 hz2 rfl (by decide) _ _ _ rfl (World.ownsRow.alloc hk2 _) ⟨wr.heap.size, 0, none⟩ 1 1 [.int .i64 2] rfl rfl ?c1 ?c2 ?c3 ?c4 ?c5 ?_))
        case c1 =>
          intro j u hj
          match j, hj with
          | 0, hj => simp at hj; subst hj; simp [Addr.add]
        case c2 => intro u hu; simp at hu; subst hu; rfl
        case c3 => unfold maxLen; omega
        case c4 => omega
        case c5 => have := hgr.size; simp; omega
        intro v' w3 hown' hgrow _
        obtain ⟨a', cap', rfl, q1, q2, R⟩ := Hs.out w3 v' (by rw [lK_len]; exact hown') (by rw [lK_len]; exact grow_box hgrow)
        have HR := Lib.hid R
        clear R hown' hgrow hk2
        go_wp2
        go_roundw
        case rel => exact HR.out
        case measure => simp [intOf]
      · have Hs := Lib.hid (fun w3 v' ho hg => sn_step (w3 := w3) (v' := v') (by omega : 3 < 9) hT hown hZ hgr ho hg)
        clear hown hZ hT
        go_wp2_with (first
          | (go_at_call 46; refine (ci _).mono ?_; rintro e w' ⟨rfl, rfl⟩)
          | (at_builtin; refine wpList_append_own _ rfl _ _ 23 rfl (w.heap.size + 2) 3 i0 (.int .i64 0) 1 8 Try.underlying23 hi hz0 hz1 hz2 rfl (by decide) _ _ _ rfl (World.ownsRow.alloc hk2 _) ⟨wr.heap.size, 0, none⟩ 1 1 [.int .i64 1] rfl rfl ?c1 ?c2 ?c3 ?c4 ?c5 ?_))
        case c1 =>
          intro j u hj
          match j, hj with
          | 0, hj => simp at hj; subst hj; simp [Addr.add]
        case c2 => intro u hu; simp at hu; subst hu; rfl
        case c3 => unfold maxLen; omega
        case c4 => omega
        case c5 => have := hgr.size; simp; omega
        intro v' w3 hown' hgrow _
        obtain ⟨a', cap', rfl, q1, q2, R⟩ := Hs.out w3 v' (by rw [lK_len]; exact hown') (by rw [lK_len]; exact grow_box hgrow)
        have HR := Lib.hid R
        clear R hown' hgrow hk2
        go_wp2
        go_roundw
        case rel => exact HR.out
        case measure => simp [intOf]
      · have Hs := Lib.hid (fun w3 v' ho hg => sn_step (w3 := w3) (v' := v') (by omega : 4 < 9) hT hown hZ hgr ho hg)
        clear hown hZ hT
        go_wp2_with (first
          | (go_at_call 46; refine (ci _).mono ?_; rintro e w' ⟨rfl, rfl⟩)
          | (at_builtin; refine wpList_append_own _ rfl _ _ 23 rfl (w.heap.size + 2) 3 i0 (.int .i64 0) 1 8 Try.underlying23 hi hz0 hz1 hz2 rfl (by decide) _ _ _ rfl (World.ownsRow.alloc hk2 _) ⟨wr.heap.size, 0, none⟩ 1 1 [.int .i64 1] rfl rfl ?c1 ?c2 ?c3 ?c4 ?c5 ?_))
        case c1 =>
          intro j u hj
          match j, hj with
          | 0, hj => simp at hj; subst hj; simp [Addr.add]
        case c2 => intro u hu; simp at hu; subst hu; rfl
        case c3 => unfold maxLen; omega
        case c4 => omega
        case c5 => have := hgr.size; simp; omega
        intro v' w3 hown' hgrow _
        obtain ⟨a', cap', rfl, q1, q2, R⟩ := Hs.out w3 v' (by rw [lK_len]; exact hown') (by rw [lK_len]; exact grow_box hgrow)
        have HR := Lib.hid R
        clear R hown' hgrow hk2
        go_wp2
        go_roundw
        case rel => exact HR.out
        case measure => simp [intOf]
      · have Hs := Lib.hid (fun w3 v' ho hg => sn_step (w3 := w3) (v' := v') (by omega : 5 < 9) hT hown hZ hgr ho hg)
        clear hown hZ hT
        go_wp2_with (first
          | (go_at_call 46; refine (ci _).mono ?_; rintro e w' ⟨rfl, rfl⟩)
          | (at_builtin; refine wpList_append_own _ rfl _ _ 23 rfl (w.heap.size + 2) 3 i0 (.int .i64 0) 1 8 Try.underlying23 hi hz0 hz1 hz2 rfl (by decide) _ _ _ rfl (World.ownsRow.alloc hk2 _) ⟨wr.heap.size, 0, none⟩ 1 1 [.int .i64 2] rfl rfl ?c1 ?c2 ?c3 ?c4 ?c5 ?_))
        case c1 =>
          intro j u hj
          match j, hj with
          | 0, hj => simp at hj; subst hj; simp [Addr.add]
        case c2 => intro u hu; simp at hu; subst hu; rfl
        case c3 => unfold maxLen; omega
        case c4 => omega
        case c5 => have := hgr.size; simp; omega
        intro v' w3 hown' hgrow _
        obtain ⟨a', cap', rfl, q1, q2, R⟩ := Hs.out w3 v' (by rw [lK_len]; exact hown') (by rw [lK_len]; exact grow_box hgrow)
        have HR := Lib.hid R
        clear R hown' hgrow hk2
        go_wp2
        go_roundw
        case rel => exact HR.out
        case measure => simp [intOf]
      · have Hs := Lib.hid (fun w3 v' ho hg => sn_step (w3 := w3) (v' := v') (by omega : 6 < 9) hT hown hZ hgr ho hg)
        clear hown hZ hT
        go_wp2_with (first
          | (go_at_call 46; refine (ci _).mono ?_; rintro e w' ⟨rfl, rfl⟩)
          | (at_builtin; refine wpList_append_own _ rfl _ _ 23 rfl (w.heap.size + 2) 3 i0 (.int .i64 0) 1 8 Try.underlying23 hi hz0 hz1 hz2 rfl (by decide) _ _ _ rfl (World.ownsRow.alloc hk2 _) ⟨wr.heap.size, 0, none⟩ 1 1 [.int .i64 2] rfl rfl ?c1 ?c2 ?c3 ?c4 ?c5 ?_))
        case c1 =>
          intro j u hj
          match j, hj with
          | 0, hj => simp at hj; subst hj; simp [Addr.add]
        case c2 => intro u hu; simp at hu; subst hu; rfl
        case c3 => unfold maxLen; omega
        case c4 => omega
        case c5 => have := hgr.size; simp; omega
        intro v' w3 hown' hgrow _
        obtain ⟨a', cap', rfl, q1, q2, R⟩ := Hs.out w3 v' (by rw [lK_len]; exact hown') (by rw [lK_len]; exact grow_box hgrow)
        have HR := Lib.hid R
        clear R hown' hgrow hk2
        go_wp2
        go_roundw
        case rel => exact HR.out
        case measure => simp [intOf]
      · have Hs := Lib.hid (fun w3 v' ho hg => sn_step (w3 := w3) (v' := v') (by omega : 7 < 9) hT hown hZ hgr ho hg)
        clear hown hZ hT
        go_wp2_with (first
          | (go_at_call 46; refine (ci _).mono ?_; rintro e w' ⟨rfl, rfl⟩)
          | (at_builtin; refine wpList_append_own _ rfl _ _ 23 rfl (w.heap.size + 2) 3 i0 (.int .i64 0) 1 8 Try.underlying23 hi hz0 hz1 hz2 rfl (by decide) _ _ _ rfl (World.ownsRow.alloc hk2 _) ⟨wr.heap.size, 0, none⟩ 1 1 [.int .i64 2] rfl rfl ?c1 ?c2 ?c3 ?c4 ?c5 ?_))
        case c1 =>
          intro j u hj
          match j, hj with
          | 0, hj => simp at hj; subst hj; simp [Addr.add]
        case c2 => intro u hu; simp at hu; subst hu; rfl
        case c3 => unfold maxLen; omega
        case c4 => omega
        case c5 => have := hgr.size; simp; omega
        intro v' w3 hown' hgrow _
        obtain ⟨a', cap', rfl, q1, q2, R⟩ := Hs.out w3 v' (by rw [lK_len]; exact hown') (by rw [lK_len]; exact grow_box hgrow)
        have HR := Lib.hid R
        clear R hown' hgrow hk2
        go_wp2
        go_roundw
        case rel => exact HR.out
        case measure => simp [intOf]
      · have Hs := Lib.hid (fun w3 v' ho hg => sn_step (w3 := w3) (v' := v') (by omega : 8 < 9) hT hown hZ hgr ho hg)
        clear hown hZ hT
        go_wp2_with (first
          | (go_at_call 46; refine (ci _).mono ?_; rintro e w' ⟨rfl, rfl⟩)
          | (at_builtin; refine wpList_append_own _ rfl _ _ 23 rfl (w.heap.size + 2) 3 i0 (.int .i64 0) 1 8 Try.underlying23 hi hz0 hz1 hz2 rfl (by decide) _ _ _ rfl (World.ownsRow.alloc hk2 _) ⟨wr.heap.size, 0, none⟩ 1 1 [.int .i64 2] rfl rfl ?c1 ?c2 ?c3 ?c4 ?c5 ?_))
        case c1 =>
          intro j u hj
          match j, hj with
          | 0, hj => simp at hj; subst hj; simp [Addr.add]
        case c2 => intro u hu; simp at hu; subst hu; rfl
        case c3 => unfold maxLen; omega
        case c4 => omega
        case c5 => have := hgr.size; simp; omega
        intro v' w3 hown' hgrow _
        obtain ⟨a', cap', rfl, q1, q2, R⟩ := Hs.out w3 v' (by rw [lK_len]; exact hown') (by rw [lK_len]; exact grow_box hgrow)
        have HR := Lib.hid R
        clear R hown' hgrow hk2
        go_wp2
        go_roundw
        case rel => exact HR.out
        case measure => simp [intOf]
    · obtain rfl : k = 9 := by omega
      have n1 := hT.cell
      have n0 := hZ.cell
      have d0 := hZ.free
      have hO2 : OwnI (wr.drew.setCell ⟨w.heap.size, 0, none⟩ (.slice a 9 cap)) w.heap.size a cap (lT (namK 1)) := by
        refine own_lower (World.ownsRow.kept hown ((grownBy_trans (show wr.grownBy wr.drew (some w.heap.size) from ⟨rfl, rfl, rfl, Nat.le_refl _, fun _ _ _ => rfl⟩) (grownBy_set wr.drew w.heap.size 0 _))) (.inr fun e => ?_)) (by omega)
        have := World.ownsRow.lt hown _ e
        omega
      have HO := Lib.hid hO2
      have HG := Lib.hid (grow_at (grownBy_drew hgr) (grownBy_set wr.drew w.heap.size 0 (.slice a 9 cap)) (Nat.le_refl _))
      have HZ := Lib.hid (T1.set (w := wr.drew) (v := .slice a 9 cap) hZ)
      clear hT hown hZ hgr hO2
      go_wp2_with fail
      go_region
      go_wp2_with fail
      exact bodyPost_ret (resT2 rfl _ rfl rfl HZ.out) rfl ⟨a, cap, by rfl, HO.out, HG.out⟩

set_option maxHeartbeats 4000000 in
theorem snam_2 (w : World) : Calls Try.prog 25 #[.int .i64 2] w (NamPost (namL 2) true w) := by
  obtain ⟨i0, hi, hz0, hz1, hz2⟩ := info_parts infoInt
  have hst := Lib.hid (sn_start (namK 2) w)
  have ci := fun w => in_any 2 0 5 w
  rw [inB_t (by omega)] at ci
  go_enter Try.func25, Try.ntmps25
  go_wp2_with fail
  go_loopw [5] (fun i wr => SnRel (namK 2) w i wr) (fun i _ => 9 - (intOf i).toNat)
  case atStart => exact hst.out
  case round =>
    obtain ⟨k, hk, rfl, a, cap, hT, hown, hZ, hgr⟩ := hrel
    by_cases hlt : k < 9
    · have hk9 : k = 0 ∨ k = 1 ∨ k = 2 ∨ k = 3 ∨ k = 4 ∨ k = 5 ∨ k = 6 ∨ k = 7 ∨ k = 8 := by omega
      have n1 := hT.cell
      have hl1 := hT.lt
      have hk2 := own_k hown
      rcases hk9 with rfl | rfl | rfl | rfl | rfl | rfl | rfl | rfl | rfl
      · have Hs := Lib.hid (fun w3 v' ho hg => sn_step (w3 := w3) (v' := v') (by omega : 0 < 9) hT hown hZ hgr ho hg)
        clear hown hZ hT
        go_wp2_with (first
          | (go_at_call 46; refine (ci _).mono ?_; rintro e w' ⟨rfl, rfl⟩)
          | (at_builtin; refine wpList_append_own _ rfl _ _ 23 rfl (w.heap.size + 2) 3 i0 (.int .i64 0) 1 8 Try.underlying23 hi hz0 hz1 hz2 rfl (by decide) _ _ _ rfl (World.ownsRow.alloc hk2 _) ⟨wr.heap.size, 0, none⟩ 1 1 [.int .i64 2] rfl rfl ?c1 ?c2 ?c3 ?c4 ?c5 ?_))
        case c1 =>
          intro j u hj
          match j, hj with
          | 0, hj => simp at hj; subst hj; simp [Addr.add]
        case c2 => intro u hu; simp at hu; subst hu; rfl
        case c3 => unfold maxLen; omega
        case c4 => omega
        case c5 => have := hgr.size; simp; omega
        intro v' w3 hown' hgrow _
        obtain ⟨a', cap', rfl, q1, q2, R⟩ := Hs.out w3 v' (by rw [lK_len]; exact hown') (by rw [lK_len]; exact grow_box hgrow)
        have HR := Lib.hid R
        clear R hown' hgrow hk2
        go_wp2
        go_roundw
        case rel => exact HR.out
        case measure => simp [intOf]
      · have Hs := Lib.hid (fun w3 v' ho hg => sn_step (w3 := w3) (v' := v') (by omega : 1 < 9) hT hown hZ hgr ho hg)
        clear hown hZ hT
        go_wp2_with (first
          | (go_at_call 46; refine (ci _).mono ?_; rintro e w' ⟨rfl, rfl⟩)
          | (at_builtin; refine wpList_append_own _ rfl _ _ 23 rfl (w.heap.size + 2) 3 i0 (.int .i64 0) 1 8 Try.underlying23 hi hz0 hz1 hz2 rfl (by decide) _ _ _ rfl (World.ownsRow.alloc hk2 _) ⟨wr.heap.size, 0, none⟩ 1 1 [.int .i64 2] rfl rfl ?c1 ?c2 ?c3 ?c4 ?c5 ?_))
        case c1 =>
          intro j u hj
          match j, hj with
          | 0, hj => simp at hj; subst hj; simp [Addr.add]
        case c2 => intro u hu; simp at hu; subst hu; rfl
        case c3 => unfold maxLen; omega
        case c4 => omega
        case c5 => have := hgr.size; simp; omega
        intro v' w3 hown' hgrow _
        obtain ⟨a', cap', rfl, q1, q2, R⟩ := Hs.out w3 v' (by rw [lK_len]; exact hown') (by rw [lK_len]; exact grow_box hgrow)
        have HR := Lib.hid R
        clear R hown' hgrow hk2
        go_wp2
        go_roundw
        case rel => exact HR.out
        case measure => simp [intOf]
      · have Hs := Lib.hid (fun w3 v' ho hg => sn_step (w3 := w3) (v' := v') (by omega : 2 < 9) hT hown hZ hgr ho hg)
        clear hown hZ hT
        go_wp2_with (first
          | (go_at_call 46; refine (ci _).mono ?_; rintro e w' ⟨rfl, rfl⟩)
          | (at_builtin; refine wpList_append_own _ rfl _ _ 23 rfl (w.heap.size + 2) 3 i0 (.int .i64 0) 1 8 Try.underlying23 hi hz0 hz1 hz2 rfl (by decide) _ _ _ rfl (World.ownsRow.alloc hk2 _) ⟨wr.heap.size, 0, none⟩ 1 1 [.int .i64 2] rfl rfl ?c1 ?c2 ?c3 ?c4 ?c5 ?_))
        case c1 =>
          intro j u hj
          match j, hj with
          | 0, hj => simp at hj; subst hj; simp [Addr.add]
        case c2 => intro u hu; simp at hu; subst hu; rfl
        case c3 => unfold maxLen; omega
        case c4 => omega
        case c5 => have := hgr.size; simp; omega
        intro v' w3 hown' hgrow _
        obtain ⟨a', cap', rfl, q1, q2, R⟩ := Hs.out w3 v' (by rw [lK_len]; exact hown') (by rw [lK_len]; exact grow_box hgrow)
        have HR := Lib.hid R
        clear R hown' hgrow hk2
        go_wp2
        go_roundw
        case rel => exact HR.out
        case measure => simp [intOf]
      · have Hs := Lib.hid (fun w3 v' ho hg => sn_step (w3 := w3) (v' := v') (by omega : 3 < 9) hT hown hZ hgr ho hg)
        clear hown hZ hT
        go_wp2_with (first
          | (go_at_call 46; refine (ci _).mono ?_; rintro e w' ⟨rfl, rfl⟩)
          | (at_builtin; refine wpList_append_own _ rfl _ _ 23 rfl (w.heap.size + 2) 3 i0 (.int .i64 0) 1 8 Try.underlying23 hi hz0 hz1 hz2 rfl (by decide) _ _ _ rfl (World.ownsRow.alloc hk2 _) ⟨wr.heap.size, 0, none⟩ 1 1 [.int .i64 1] rfl rfl ?c1 ?c2 ?c3 ?c4 ?c5 ?_))
        case c1 =>
          intro j u hj
          match j, hj with
          | 0, hj => simp at hj; subst hj; simp [Addr.add]
        case c2 => intro u hu; simp at hu; subst hu; rfl
        case c3 => unfold maxLen; omega
        case c4 => omega
        case c5 => have := hgr.size; simp; omega
        intro v' w3 hown' hgrow _
        obtain ⟨a', cap', rfl, q1, q2, R⟩ := Hs.out w3 v' (by rw [lK_len]; exact hown') (by rw [lK_len]; exact grow_box hgrow)
        have HR := Lib.hid R
        clear R hown' hgrow hk2
        go_wp2
        go_roundw
        case rel => exact HR.out
        case measure => simp [intOf]
      · have Hs := Lib.hid (fun w3 v' ho hg => sn_step (w3 := w3) (v' := v') (by omega : 4 < 9) hT hown hZ hgr ho hg)
        clear hown hZ hT
        go_wp2_with (first
          | (go_at_call 46; refine (ci _).mono ?_; rintro e w' ⟨rfl, rfl⟩)
          | (at_builtin; refine wpList_append_own _ rfl _ _ 23 rfl (w.heap.size + 2) 3 i0 (.int .i64 0) 1 8 Try.underlying23 hi hz0 hz1 hz2 rfl (by decide) _ _ _ rfl (World.ownsRow.alloc hk2 _) ⟨wr.heap.size, 0, none⟩ 1 1 [.int .i64 1] rfl rfl ?c1 ?c2 ?c3 ?c4 ?c5 ?_))
        case c1 =>
          intro j u hj
          match j, hj with
          | 0, hj => simp at hj; subst hj; simp [Addr.add]
        case c2 => intro u hu; simp at hu; subst hu; rfl
        case c3 => unfold maxLen; omega
        case c4 => omega
        case c5 => have := hgr.size; simp; omega
        intro v' w3 hown' hgrow _
        obtain ⟨a', cap', rfl, q1, q2, R⟩ := Hs.out w3 v' (by rw [lK_len]; exact hown') (by rw [lK_len]; exact grow_box hgrow)
        have HR := Lib.hid R
        clear R hown' hgrow hk2
        go_wp2
        go_roundw
        case rel => exact HR.out
        case measure => simp [intOf]
      · have Hs := Lib.hid (fun w3 v' ho hg => sn_step (w3 := w3) (v' := v') (by omega : 5 < 9) hT hown hZ hgr ho hg)
        clear hown hZ hT
        go_wp2_with (first
          | (go_at_call 46; refine (ci _).mono ?_; rintro e w' ⟨rfl, rfl⟩)
          | (at_builtin; refine wpList_append_own _ rfl _ _ 23 rfl (w.heap.size + 2) 3 i0 (.int .i64 0) 1 8 Try.underlying23 hi hz0 hz1 hz2 rfl (by decide) _ _ _ rfl (World.ownsRow.alloc hk2 _) ⟨wr.heap.size, 0, none⟩ 1 1 [.int .i64 2] rfl rfl ?c1 ?c2 ?c3 ?c4 ?c5 ?_))
        case c1 =>
          intro j u hj
          match j, hj with
          | 0, hj => simp at hj; subst hj; simp [Addr.add]
        case c2 => intro u hu; simp at hu; subst hu; rfl
        case c3 => unfold maxLen; omega
        case c4 => omega
        case c5 => have := hgr.size; simp; omega
        intro v' w3 hown' hgrow _
        obtain ⟨a', cap', rfl, q1, q2, R⟩ := Hs.out w3 v' (by rw [lK_len]; exact hown') (by rw [lK_len]; exact grow_box hgrow)
        have HR := Lib.hid R
        clear R hown' hgrow hk2
        go_wp2
        go_roundw
        case rel => exact HR.out
        case measure => simp [intOf]
      · have Hs := Lib.hid (fun w3 v' ho hg => sn_step (w3 := w3) (v' := v') (by omega : 6 < 9) hT hown hZ hgr ho hg)
        clear hown hZ hT
        go_wp2_with (first
          | (go_at_call 46; refine (ci _).mono ?_; rintro e w' ⟨rfl, rfl⟩)
          | (at_builtin; refine wpList_append_own _ rfl _ _ 23 rfl (w.heap.size + 2) 3 i0 (.int .i64 0) 1 8 Try.underlying23 hi hz0 hz1 hz2 rfl (by decide) _ _ _ rfl (World.ownsRow.alloc hk2 _) ⟨wr.heap.size, 0, none⟩ 1 1 [.int .i64 0] rfl rfl ?c1 ?c2 ?c3 ?c4 ?c5 ?_))
        case c1 =>
          intro j u hj
          match j, hj with
          | 0, hj => simp at hj; subst hj; simp [Addr.add]
        case c2 => intro u hu; simp at hu; subst hu; rfl
        case c3 => unfold maxLen; omega
        case c4 => omega
        case c5 => have := hgr.size; simp; omega
        intro v' w3 hown' hgrow _
        obtain ⟨a', cap', rfl, q1, q2, R⟩ := Hs.out w3 v' (by rw [lK_len]; exact hown') (by rw [lK_len]; exact grow_box hgrow)
        have HR := Lib.hid R
        clear R hown' hgrow hk2
        go_wp2
        go_roundw
        case rel => exact HR.out
        case measure => simp [intOf]
      · have Hs := Lib.hid (fun w3 v' ho hg => sn_step (w3 := w3) (v' := v') (by omega : 7 < 9) hT hown hZ hgr ho hg)
        clear hown hZ hT
        go_wp2_with (first
          | (go_at_call 46; refine (ci _).mono ?_; rintro e w' ⟨rfl, rfl⟩)
          | (at_builtin; refine wpList_append_own _ rfl _ _ 23 rfl (w.heap.size + 2) 3 i0 (.int .i64 0) 1 8 Try.underlying23 hi hz0 hz1 hz2 rfl (by decide) _ _ _ rfl (World.ownsRow.alloc hk2 _) ⟨wr.heap.size, 0, none⟩ 1 1 [.int .i64 1] rfl rfl ?c1 ?c2 ?c3 ?c4 ?c5 ?_))
        case c1 =>
          intro j u hj
          match j, hj with
          | 0, hj => simp at hj; subst hj; simp [Addr.add]
        case c2 => intro u hu; simp at hu; subst hu; rfl
        case c3 => unfold maxLen; omega
        case c4 => omega
        case c5 => have := hgr.size; simp; omega
        intro v' w3 hown' hgrow _
        obtain ⟨a', cap', rfl, q1, q2, R⟩ := Hs.out w3 v' (by rw [lK_len]; exact hown') (by rw [lK_len]; exact grow_box hgrow)
        have HR := Lib.hid R
        clear R hown' hgrow hk2
        go_wp2
        go_roundw
        case rel => exact HR.out
        case measure => simp [intOf]
      · have Hs := Lib.hid (fun w3 v' ho hg => sn_step (w3 := w3) (v' := v') (by omega : 8 < 9) hT hown hZ hgr ho hg)
        clear hown hZ hT
        go_wp2_with (first
          | (go_at_call 46; refine (ci _).mono ?_; rintro e w' ⟨rfl, rfl⟩)
          | (at_builtin; refine wpList_append_own _ rfl _ _ 23 rfl (w.heap.size + 2) 3 i0 (.int .i64 0) 1 8 Try.underlying23 hi hz0 hz1 hz2 rfl (by decide) _ _ _ rfl (World.ownsRow.alloc hk2 _) ⟨wr.heap.size, 0, none⟩ 1 1 [.int .i64 2] rfl rfl ?c1 ?c2 ?c3 ?c4 ?c5 ?_))
        case c1 =>
          intro j u hj
          match j, hj with
          | 0, hj => simp at hj; subst hj; simp [Addr.add]
        case c2 => intro u hu; simp at hu; subst hu; rfl
        case c3 => unfold maxLen; omega
        case c4 => omega
        case c5 => have := hgr.size; simp; omega
        intro v' w3 hown' hgrow _
        obtain ⟨a', cap', rfl, q1, q2, R⟩ := Hs.out w3 v' (by rw [lK_len]; exact hown') (by rw [lK_len]; exact grow_box hgrow)
        have HR := Lib.hid R
        clear R hown' hgrow hk2
        go_wp2
        go_roundw
        case rel => exact HR.out
        case measure => simp [intOf]
    · obtain rfl : k = 9 := by omega
      have n1 := hT.cell
      have n0 := hZ.cell
      have d0 := hZ.free
      have hO2 : OwnI (wr.drew.setCell ⟨w.heap.size, 0, none⟩ (.slice a 9 cap)) w.heap.size a cap (lT (namK 2)) := by
        refine own_lower (World.ownsRow.kept hown ((grownBy_trans (show wr.grownBy wr.drew (some w.heap.size) from ⟨rfl, rfl, rfl, Nat.le_refl _, fun _ _ _ => rfl⟩) (grownBy_set wr.drew w.heap.size 0 _))) (.inr fun e => ?_)) (by omega)
        have := World.ownsRow.lt hown _ e
        omega
      have HO := Lib.hid hO2
      have HG := Lib.hid (grow_at (grownBy_drew hgr) (grownBy_set wr.drew w.heap.size 0 (.slice a 9 cap)) (Nat.le_refl _))
      have HZ := Lib.hid (T1.set (w := wr.drew) (v := .slice a 9 cap) hZ)
      clear hT hown hZ hgr hO2
      go_wp2_with fail
      go_region
      go_wp2_with fail
      exact bodyPost_ret (resT2 rfl _ rfl rfl HZ.out) rfl ⟨a, cap, by rfl, HO.out, HG.out⟩

end Go.Proofs.Ytbhfbpmfbknalaa
