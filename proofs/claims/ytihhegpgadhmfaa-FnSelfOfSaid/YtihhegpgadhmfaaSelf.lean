/-
  SelfOf, both sides: the values that together with themselves are themselves.
-/
import Derived.Test.YtihhegpgadhmfaaDivS
import Derived.Test.YtihhegpgadhmfaaInts
namespace Go.Proofs.Ytihhegpgadhmfaa
open Go.RowKit

theorem infoInt : (Try.prog.info? 3).map (fun i => (i.zero, i.size, i.bytes)) = some (some (.int .i64 0), 1, 8) := by kernel_rfl

def selfTo (k n : Int) : Nat → List Int
  | 0 => []
  | j + 1 => if togV k n j j = j then selfTo k n j ++ [(j : Int)] else selfTo k n j
def selfL (k n : Int) : List Int := if inB k 0 2 = true ∧ inB n 1 6 = true then selfTo k n (n.toNat + 1) else []
theorem selfTo_len (k n : Int) : ∀ j, (selfTo k n j).length ≤ j
  | 0 => by simp [selfTo]
  | j + 1 => by
    have := selfTo_len k n j
    unfold selfTo
    split
    · rw [List.length_append]; simp; omega
    · omega
theorem selfL_t {k n : Int} (h1 : inB k 0 2 = true) (h2 : inB n 1 6 = true) : selfL k n = selfTo k n (n.toNat + 1) := if_pos ⟨h1, h2⟩
theorem selfL_f {k n : Int} (h : inB k 0 2 = false ∨ inB n 1 6 = false) : selfL k n = [] := if_neg (by rintro ⟨h1, h2⟩; rw [h1, h2] at h; simp at h)
theorem selfTo_hit {k n : Int} {j : Nat} (h : togV k n j j = j) : selfTo k n (j + 1) = selfTo k n j ++ [(j : Int)] := if_pos h
theorem selfTo_miss {k n : Int} {j : Nat} (h : ¬ togV k n j j = j) : selfTo k n (j + 1) = selfTo k n j := if_neg h

/-- The row so far, by the call's own slice. -/
def RowRel (zs : List Int) (base : Nat) (w : World) (v : Value) (wr : World) : Prop := ∃ a cap, v = .slice a zs.length cap ∧ OwnI wr base a cap zs ∧ w.grownBy wr none

theorem row_more {w wr w1 : World} {v v' : Value} {zs : List Int} {j : Int} (hn : wr.ownsRow w.heap.size 3 1 v zs.length (zs.map (Value.int .i64))) (hg : w.grownBy wr none)
    (ho : w1.ownsRow w.heap.size 3 1 v' (zs.length + 1) (zs.map (Value.int .i64) ++ [.int .i64 j])) (hgr : wr.grownBy w1 v.ownBlock) : RowRel (zs ++ [j]) w.heap.size w v' w1 := by
  have e : zs.map (Value.int .i64) ++ [Value.int .i64 j] = (zs ++ [j]).map (Value.int .i64) := by simp
  rw [e] at ho
  obtain ⟨a, cap, rfl, _, hO⟩ := ownI_shape ho
  exact ⟨a, cap, rfl, hO, grownBy_row hg hn (Nat.le_refl _) hgr⟩

theorem grow_box {wr w1 : World} {o : Obj} {v : Value} (h : (wr.alloc o).grownBy w1 v.ownBlock) : wr.grownBy w1 v.ownBlock :=
  grownBy_trans (World.grownBy_alloc wr o _) h

def SelfRel (k n : Int) (w : World) (v i : Value) (wr : World) : Prop := ∃ j : Nat, (j : Int) ≤ n + 1 ∧ i = .int .i64 j ∧ RowRel (selfTo k n j) w.heap.size w v wr

set_option maxHeartbeats 1600000 in
theorem self_0 (n : Int) (hn : inB n 1 6 = true) (w : World) :
    Calls Try.prog 29 #[.int .i64 0, .int .i64 n] w (IntsPost (selfTo 0 n (n.toNat + 1)) w) := by
  obtain ⟨i0, hi, hz0, hz1, hz2⟩ := info_parts infoInt
  have k1 := inB_of hn
  have hm := meth_0
  go_enter Try.func29, Try.ntmps29
  go_wp2_with (first | (go_at_call 39; refine (taking_0 _).mono ?_; rintro e w1 ⟨rfl, rfl⟩) | (go_at_call 47; refine (steps_any _ _).mono ?_; rintro e w' ⟨rfl, rfl⟩))
  go_loopw [7, 23] (fun v i wr => SelfRel 0 n w v i wr) (fun _ i _ => (n + 1 - intOf i).toNat)
  case atStart => exact ⟨0, by omega, rfl, none, 0, rfl, OwnI.nil _ _, grownBy_refl _ _⟩
  case round =>
    obtain ⟨j, hj, rfl, a, cap, rfl, hown, hgr⟩ := hrel
    have hlen := selfTo_len 0 n j
    by_cases hlt : (j : Int) < n + 1
    · have ht2 : twoB n j j = true := twoB_t (by omega)
      by_cases hit : togV 0 n j j = j
      · have e := Lib.hid (selfTo_hit hit)
        have g1 : (togV 0 n j j == (j : Int)) = true := by simpa using hit
        clear hit
        go_wp2_with (first
          | (go_at_call 72; refine (m_0 n j j ht2 _).mono ?_; rintro e w2 ⟨rfl, hg2⟩; replace hown := hown.kept hg2; replace hgr := grownBy_trans hgr hg2)
          | (at_builtin; refine wpList_append_own _ rfl _ _ 35 rfl w.heap.size 3 i0 (.int .i64 0) 1 8 Try.underlying35 hi hz0 hz1 hz2 rfl (by decide) _ _ _ rfl (World.ownsRow.alloc hown _) ⟨w2.heap.size, 0, none⟩ 1 1 [.int .i64 j] rfl rfl ?c1 ?c2 ?c3 ?c4 ?c5 ?_))
        case c1 =>
          intro j u hj
          match j, hj with
          | 0, hj => simp at hj; subst hj; simp [Addr.add]
        case c2 => intro u hu; simp at hu; subst hu; rfl
        case c3 => unfold maxLen; omega
        case c4 => omega
        case c5 => have := hgr.size; simp; omega
        intro v' w3 hown' hgrow _
        have R := row_more hown hgr hown' (grow_box hgrow)
        rw [← e.out] at R
        clear hown hown' hgrow
        go_wp2
        go_roundw
        case rel => exact ⟨j + 1, by omega, by go_num, R⟩
        case measure => simp [intOf]; omega
      · have e := Lib.hid (selfTo_miss hit)
        have g1 : (togV 0 n j j == (j : Int)) = false := by simpa using hit
        clear hit
        go_wp2_with (go_at_call 72; refine (m_0 n j j ht2 _).mono ?_; rintro e w2 ⟨rfl, hg2⟩; replace hown := hown.kept hg2; replace hgr := grownBy_trans hgr hg2)
        go_roundw
        case rel => exact ⟨j + 1, by omega, by go_num, a, cap, by rw [e.out], by rw [e.out]; exact hown, hgr⟩
        case measure => simp [intOf]; omega
    · obtain rfl : j = n.toNat + 1 := by omega
      go_wp2
      go_ret
      exact ⟨a, cap, rfl, hown, hgr⟩

set_option maxHeartbeats 1600000 in
theorem self_1 (n : Int) (hn : inB n 1 6 = true) (w : World) :
    Calls Try.prog 29 #[.int .i64 1, .int .i64 n] w (IntsPost (selfTo 1 n (n.toNat + 1)) w) := by
  obtain ⟨i0, hi, hz0, hz1, hz2⟩ := info_parts infoInt
  have k1 := inB_of hn
  have hm := meth_1
  go_enter Try.func29, Try.ntmps29
  go_wp2_with (first | (go_at_call 39; refine (taking_1 _).mono ?_; rintro e w1 ⟨rfl, rfl⟩) | (go_at_call 47; refine (steps_any _ _).mono ?_; rintro e w' ⟨rfl, rfl⟩))
  go_loopw [7, 23] (fun v i wr => SelfRel 1 n w v i wr) (fun _ i _ => (n + 1 - intOf i).toNat)
  case atStart => exact ⟨0, by omega, rfl, none, 0, rfl, OwnI.nil _ _, grownBy_refl _ _⟩
  case round =>
    obtain ⟨j, hj, rfl, a, cap, rfl, hown, hgr⟩ := hrel
    have hlen := selfTo_len 1 n j
    by_cases hlt : (j : Int) < n + 1
    · have ht2 : twoB n j j = true := twoB_t (by omega)
      by_cases hit : togV 1 n j j = j
      · have e := Lib.hid (selfTo_hit hit)
        have g1 : (togV 1 n j j == (j : Int)) = true := by simpa using hit
        clear hit
        go_wp2_with (first
          | (go_at_call 74; refine (m_1 n j j ht2 _).mono ?_; rintro e w2 ⟨rfl, hg2⟩; replace hown := hown.kept hg2; replace hgr := grownBy_trans hgr hg2)
          | (at_builtin; refine wpList_append_own _ rfl _ _ 35 rfl w.heap.size 3 i0 (.int .i64 0) 1 8 Try.underlying35 hi hz0 hz1 hz2 rfl (by decide) _ _ _ rfl (World.ownsRow.alloc hown _) ⟨w2.heap.size, 0, none⟩ 1 1 [.int .i64 j] rfl rfl ?c1 ?c2 ?c3 ?c4 ?c5 ?_))
        case c1 =>
          intro j u hj
          match j, hj with
          | 0, hj => simp at hj; subst hj; simp [Addr.add]
        case c2 => intro u hu; simp at hu; subst hu; rfl
        case c3 => unfold maxLen; omega
        case c4 => omega
        case c5 => have := hgr.size; simp; omega
        intro v' w3 hown' hgrow _
        have R := row_more hown hgr hown' (grow_box hgrow)
        rw [← e.out] at R
        clear hown hown' hgrow
        go_wp2
        go_roundw
        case rel => exact ⟨j + 1, by omega, by go_num, R⟩
        case measure => simp [intOf]; omega
      · have e := Lib.hid (selfTo_miss hit)
        have g1 : (togV 1 n j j == (j : Int)) = false := by simpa using hit
        clear hit
        go_wp2_with (go_at_call 74; refine (m_1 n j j ht2 _).mono ?_; rintro e w2 ⟨rfl, hg2⟩; replace hown := hown.kept hg2; replace hgr := grownBy_trans hgr hg2)
        go_roundw
        case rel => exact ⟨j + 1, by omega, by go_num, a, cap, by rw [e.out], by rw [e.out]; exact hown, hgr⟩
        case measure => simp [intOf]; omega
    · obtain rfl : j = n.toNat + 1 := by omega
      go_wp2
      go_ret
      exact ⟨a, cap, rfl, hown, hgr⟩

set_option maxHeartbeats 1600000 in
theorem self_2 (n : Int) (hn : inB n 1 6 = true) (w : World) :
    Calls Try.prog 29 #[.int .i64 2, .int .i64 n] w (IntsPost (selfTo 2 n (n.toNat + 1)) w) := by
  obtain ⟨i0, hi, hz0, hz1, hz2⟩ := info_parts infoInt
  have k1 := inB_of hn
  have hm := meth_2
  go_enter Try.func29, Try.ntmps29
  go_wp2_with (first | (go_at_call 39; refine (taking_2 _).mono ?_; rintro e w1 ⟨rfl, rfl⟩) | (go_at_call 47; refine (steps_any _ _).mono ?_; rintro e w' ⟨rfl, rfl⟩))
  go_loopw [7, 23] (fun v i wr => SelfRel 2 n w v i wr) (fun _ i _ => (n + 1 - intOf i).toNat)
  case atStart => exact ⟨0, by omega, rfl, none, 0, rfl, OwnI.nil _ _, grownBy_refl _ _⟩
  case round =>
    obtain ⟨j, hj, rfl, a, cap, rfl, hown, hgr⟩ := hrel
    have hlen := selfTo_len 2 n j
    by_cases hlt : (j : Int) < n + 1
    · have ht2 : twoB n j j = true := twoB_t (by omega)
      by_cases hit : togV 2 n j j = j
      · have e := Lib.hid (selfTo_hit hit)
        have g1 : (togV 2 n j j == (j : Int)) = true := by simpa using hit
        clear hit
        go_wp2_with (first
          | (go_at_call 75; refine (m_2 n j j ht2 _).mono ?_; rintro e w2 ⟨rfl, hg2⟩; replace hown := hown.kept hg2; replace hgr := grownBy_trans hgr hg2)
          | (at_builtin; refine wpList_append_own _ rfl _ _ 35 rfl w.heap.size 3 i0 (.int .i64 0) 1 8 Try.underlying35 hi hz0 hz1 hz2 rfl (by decide) _ _ _ rfl (World.ownsRow.alloc hown _) ⟨w2.heap.size, 0, none⟩ 1 1 [.int .i64 j] rfl rfl ?c1 ?c2 ?c3 ?c4 ?c5 ?_))
        case c1 =>
          intro j u hj
          match j, hj with
          | 0, hj => simp at hj; subst hj; simp [Addr.add]
        case c2 => intro u hu; simp at hu; subst hu; rfl
        case c3 => unfold maxLen; omega
        case c4 => omega
        case c5 => have := hgr.size; simp; omega
        intro v' w3 hown' hgrow _
        have R := row_more hown hgr hown' (grow_box hgrow)
        rw [← e.out] at R
        clear hown hown' hgrow
        go_wp2
        go_roundw
        case rel => exact ⟨j + 1, by omega, by go_num, R⟩
        case measure => simp [intOf]; omega
      · have e := Lib.hid (selfTo_miss hit)
        have g1 : (togV 2 n j j == (j : Int)) = false := by simpa using hit
        clear hit
        go_wp2_with (go_at_call 75; refine (m_2 n j j ht2 _).mono ?_; rintro e w2 ⟨rfl, hg2⟩; replace hown := hown.kept hg2; replace hgr := grownBy_trans hgr hg2)
        go_roundw
        case rel => exact ⟨j + 1, by omega, by go_num, a, cap, by rw [e.out], by rw [e.out]; exact hown, hgr⟩
        case measure => simp [intOf]; omega
    · obtain rfl : j = n.toNat + 1 := by omega
      go_wp2
      go_ret
      exact ⟨a, cap, rfl, hown, hgr⟩

theorem self_any (k n : Int) (w : World) :
    Calls Try.prog 29 #[.int .i64 k, .int .i64 n] w (IntsPost (selfL k n) w) := by
  have none_ : selfL k n = [] → IntsPost (selfL k n) w (.returned (.slice none 0 0)) w := fun h => by rw [h]; exact ⟨none, 0, rfl, OwnI.nil _ _, grownBy_refl _ _⟩
  cases hk : inB k 0 2
  · have hp := Lib.hid (none_ (selfL_f (Or.inl hk)))
    clear none_
    go_enter Try.func29, Try.ntmps29
    go_wp2_with (first | (go_at_call 39; refine (taking_any _ _).mono ?_; rintro e w1 ⟨rfl, rfl⟩) | (go_at_call 47; refine (steps_any _ _).mono ?_; rintro e w' ⟨rfl, rfl⟩))
    go_ret
    exact hp.out
  · cases hn : inB n 1 6
    · have hp := Lib.hid (none_ (selfL_f (Or.inr hn)))
      clear none_
      go_enter Try.func29, Try.ntmps29
      go_wp2_with (first | (go_at_call 39; refine (taking_any _ _).mono ?_; rintro e w1 ⟨rfl, rfl⟩) | (go_at_call 47; refine (steps_any _ _).mono ?_; rintro e w' ⟨rfl, rfl⟩))
      go_ret
      exact hp.out
    · have k1 := inB_of hk
      have h3 : k = 0 ∨ k = 1 ∨ k = 2 := by omega
      rw [selfL_t hk hn]
      rcases h3 with rfl | rfl | rfl
      · exact self_0 n hn w
      · exact self_1 n hn w
      · exact self_2 n hn w

end Go.Proofs.Ytihhegpgadhmfaa
