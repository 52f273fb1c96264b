/-
  SelfOf of the model.
-/
import Derived.Test.YtihhegpgadhmfaaSelf
namespace Go.Proofs.Ytihhegpgadhmfaa
open Go.RowKit

theorem OwnI.made (w : World) : OwnI (w.alloc (.cells #[] 3)) w.heap.size (some ⟨w.heap.size, 0, none⟩) 0 [] :=
  World.ownsRow_lit w #[] 0 (Nat.le_refl _) (by unfold maxLen; omega) rfl

def ZeroRel (w : World) (v i : Value) (wr : World) : Prop := i = .int .i64 0 ∧ v = .slice (some ⟨w.heap.size, 0, none⟩) 0 0 ∧ wr = w.alloc (.cells #[] 3)

set_option maxHeartbeats 1600000 in
theorem sself_any (k n : Int) (w : World) :
    Calls Try.prog 31 #[.int .i64 k, .int .i64 n] w (IntsPost (selfL k n) w) := by
  obtain ⟨i0, hi, hz0, hz1, hz2⟩ := info_parts infoInt
  by_cases hv : inB k 0 2 = true ∧ inB n 1 6 = true
  · obtain ⟨hk, hn⟩ := hv
    have k0 := inB_of hk
    have k1 := inB_of hn
    rw [selfL_t hk hn]
    go_enter Try.func31, Try.ntmps31
    go_wp2
    go_loopw [5, 6] (fun v i wr => SelfRel k n w v i wr) (fun _ i _ => (n + 1 - intOf i).toNat)
    case atStart => exact ⟨0, by omega, rfl, _, 0, rfl, OwnI.made w, World.grownBy_alloc _ _ _⟩
    case round =>
      obtain ⟨j, hj, rfl, a, cap, rfl, hown, hgr⟩ := hrel
      have hlen := selfTo_len k n j
      by_cases hlt : (j : Int) ≤ n
      · have e1 := togW_t (wayB_t (k := k) (n := n) (a := j) (b := j) (by omega) (by omega))
        by_cases hit : togV k n j j = j
        · have e := Lib.hid (selfTo_hit hit)
          have g1 : (togW k n j j == (j : Int)) = true := by rw [e1]; simpa using hit
          clear hit e1
          go_wp2_with (first
            | (go_at_call 41; refine (in_any _ _ _ _).mono ?_; rintro e w' ⟨rfl, rfl⟩) | (go_at_call 15; refine (stog_any _ _ _ _ _).mono ?_; rintro e w' ⟨rfl, rfl⟩)
            | (at_builtin; refine wpList_append_own _ rfl _ _ 35 rfl w.heap.size 3 i0 (.int .i64 0) 1 8 Try.underlying35 hi hz0 hz1 hz2 rfl (by decide) _ _ _ rfl (World.ownsRow.alloc hown _) ⟨wr.heap.size, 0, none⟩ 1 1 [.int .i64 j] rfl rfl ?c1 ?c2 ?c3 ?c4 ?c5 ?_))
          case c1 =>
            intro j u hj
            match j, hj with
            | 0, hj => simp at hj; subst hj; simp [Addr.add]
          case c2 => intro u hu; simp at hu; subst hu; rfl
          case c3 => unfold maxLen; omega
          case c4 => omega
          case c5 => have := hgr.size; simp; omega
          intro v' w3 hown' hgrow _
          have R := row_more hown hgr hown' (grow_box hgrow)
          rw [← e.out] at R
          clear hown hown' hgrow
          go_wp2
          go_roundw
          case rel => exact ⟨j + 1, by omega, by go_num, R⟩
          case measure => simp [intOf]; omega
        · have e := Lib.hid (selfTo_miss hit)
          have g1 : (togW k n j j == (j : Int)) = false := by rw [e1]; simpa using hit
          clear hit e1
          go_wp2_with (first | (go_at_call 41; refine (in_any _ _ _ _).mono ?_; rintro e w' ⟨rfl, rfl⟩) | (go_at_call 15; refine (stog_any _ _ _ _ _).mono ?_; rintro e w' ⟨rfl, rfl⟩))
          go_roundw
          case rel => exact ⟨j + 1, by omega, by go_num, a, cap, by rw [e.out], by rw [e.out]; exact hown, hgr⟩
          case measure => simp [intOf]; omega
      · obtain rfl : j = n.toNat + 1 := by omega
        go_wp2
        go_ret
        exact ⟨a, cap, rfl, hown, hgr⟩
  · have e : selfL k n = [] := if_neg hv
    have hp : IntsPost (selfL k n) w (.returned (.slice (some ⟨w.heap.size, 0, none⟩) 0 0)) (w.alloc (.cells #[] 3)) := by rw [e]; exact ⟨_, 0, rfl, OwnI.made w, World.grownBy_alloc _ _ _⟩
    have Hp := Lib.hid hp
    have hv' : inB k 0 2 = false ∨ inB n 1 6 = false := by
      cases h1 : inB k 0 2
      · exact .inl rfl
      · cases h2 : inB n 1 6
        · exact .inr rfl
        · exact absurd ⟨h1, h2⟩ hv
    clear e hp hv
    by_cases h0 : n < 0
    · clear hv'
      go_enter Try.func31, Try.ntmps31
      go_wp2
      go_loopw [5, 6] (fun v i wr => ZeroRel w v i wr) (fun _ _ _ => 0)
      case atStart => exact ⟨rfl, rfl, rfl⟩
      case round =>
        obtain ⟨rfl, rfl, rfl⟩ := hrel
        go_wp2
        go_ret
        exact Hp.out
    · have h00 : 0 ≤ n := by omega
      rcases hv' with h1 | h1
      · go_enter Try.func31, Try.ntmps31
        go_wp2
        go_loopw [5, 6] (fun v i wr => ZeroRel w v i wr) (fun _ _ _ => 0)
        case atStart => exact ⟨rfl, rfl, rfl⟩
        case round =>
          obtain ⟨rfl, rfl, rfl⟩ := hrel
          go_wp2_with (go_at_call 41; refine (in_any _ _ _ _).mono ?_; rintro e w' ⟨rfl, rfl⟩)
          go_ret
          exact Hp.out
      · have h2 := inB_not h1
        clear h1
        cases h3 : inB k 0 2 <;> by_cases h4 : n ≤ 6
        all_goals
          go_enter Try.func31, Try.ntmps31
          go_wp2
          go_loopw [5, 6] (fun v i wr => ZeroRel w v i wr) (fun _ _ _ => 0)
          case atStart => exact ⟨rfl, rfl, rfl⟩
          case round =>
            obtain ⟨rfl, rfl, rfl⟩ := hrel
            go_wp2_with (go_at_call 41; refine (in_any _ _ _ _).mono ?_; rintro e w' ⟨rfl, rfl⟩)
            go_ret
            exact Hp.out

end Go.Proofs.Ytihhegpgadhmfaa
