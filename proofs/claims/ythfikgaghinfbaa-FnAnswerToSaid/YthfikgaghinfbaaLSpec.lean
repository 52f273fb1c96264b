/-
  The model's GameOk and LeftOf. No condition.
-/
import Derived.Test.YthfikgaghinfbaaGame2
import Derived.Test.YthfikgaghinfbaaInts
import Derived.Deep.RegionHeld3
import Derived.IntWalk
namespace Go.Proofs.Ythfikgaghinfbaa
open Go.RowKit

theorem gameB_vok {n : Int} {l : List Int} (h : gameB n l = true) {k : Nat} (hk : k < l.length) : vokB n (l.getD k 0) = true := by
  unfold gameB at h
  rw [Bool.and_eq_true, Bool.and_eq_true, List.all_eq_true] at h
  refine h.1.1 _ ?_
  rw [List.getD_eq_getElem?_getD, List.getElem?_eq_getElem hk, Option.getD_some]
  exact List.getElem_mem hk
theorem game_no {n : Int} {l : List Int} {k : Nat} (hk : k < l.length) (h : vokB n (l.getD k 0) = false) : gameB n l = false := by
  cases e : gameB n l
  · rfl
  · have := gameB_vok e hk
    rw [h] at this; cases this
theorem game_end {n : Int} {l : List Int} (h : ∀ j, j < l.length → vokB n (l.getD j 0) = true) : gameB n l = (inB l.length 1 3 && inB n 1 3) := by
  have : l.all (vokB n) = true := by
    rw [List.all_eq_true]
    intro x hx
    obtain ⟨j, hj, rfl⟩ := List.mem_iff_getElem.1 hx
    have := h j hj
    rwa [List.getD_eq_getElem?_getD, List.getElem?_eq_getElem hj, Option.getD_some] at this
  unfold gameB
  rw [this, Bool.true_and]
def GokRel (n : Int) (xs : List Int) (w : World) (i : Value) (wr : World) : Prop := ∃ k : Nat, k ≤ xs.length ∧ i = .int .i64 k ∧ (∀ j, j < k → vokB n (xs.getD j 0) = true) ∧ w = wr

set_option maxHeartbeats 1000000 in
theorem sgame_any (n : Int) (a : Option Addr) (cap : Nat) (xs : List Int) (w : World) (h : IntsAt w a xs) :
    Calls Try.prog 19 #[.int .i64 n, .slice a xs.length cap] w fun e w' => e = .returned (.bool (gameB n xs)) ∧ w = w' := by
  have hm := h.1
  unfold maxLen at hm
  have H := Lib.hid h
  clear h
  go_enter Try.func19, Try.ntmps19
  go_wp2_with fail
  go_loopw [5] (fun i wr => GokRel n xs w i wr) (fun i _ => xs.length - (intOf i).toNat)
  case atStart => exact ⟨0, by omega, rfl, fun j hj => absurd hj (by omega), rfl⟩
  case round =>
    obtain ⟨k, hk, rfl, hb, rfl⟩ := hrel
    have Hb := Lib.hid hb
    clear hb
    by_cases hlt : k < xs.length
    · rcases H.out.2 with h0 | ⟨bx, ox, rfl, hbx, hcx⟩
      · rw [h0] at hlt; simp at hlt
      have hc := hcx k hlt
      clear hcx hbx
      cases hv : vokB n (xs.getD k 0)
      · have hz := Lib.hid (game_no hlt hv)
        generalize xs.getD k 0 = q at *
        go_wp2_with (go_at_call 48; refine (svok_any _ _ _).mono ?_; rintro e w' ⟨rfl, rfl⟩)
        go_ret
        exact ⟨by rw [hz.out]; rfl, rfl⟩
      · have hn : Hid (∀ j, j < k + 1 → vokB n (xs.getD j 0) = true) := fun j hj => by
          by_cases e : j = k
          · rw [e]; exact hv
          · exact Hb.out j (by omega)
        generalize xs.getD k 0 = q at *
        go_wp2_with (go_at_call 48; refine (svok_any _ _ _).mono ?_; rintro e w' ⟨rfl, rfl⟩)
        go_roundw
        case rel => exact ⟨k + 1, by omega, by go_num, hn.out, rfl⟩
        case measure => simp [intOf]; omega
    · obtain rfl : k = xs.length := by omega
      have hz := Lib.hid (game_end Hb.out)
      cases h1 : inB (xs.length : Int) 1 3
      · go_wp2_with (go_at_call 49; refine (in_any _ _ _ _).mono ?_; rintro e w' ⟨rfl, rfl⟩)
        go_ret
        exact ⟨by rw [hz.out, h1]; rfl, rfl⟩
      · cases h2 : inB n 1 3
        all_goals
          go_wp2_with (go_at_call 49; refine (in_any _ _ _ _).mono ?_; rintro e w' ⟨rfl, rfl⟩)
          go_ret
          exact ⟨by rw [hz.out, h1, h2]; rfl, rfl⟩

def leftW (n : Int) (xs : List Int) : Int := if gameB n xs = true then leftL xs else -1
theorem leftW_t {n : Int} {xs : List Int} (h : gameB n xs = true) : leftW n xs = leftL xs := if_pos h
theorem leftW_f {n : Int} {xs : List Int} (h : gameB n xs = false) : leftW n xs = -1 := if_neg (by rw [h]; simp)

def LeftRel (xs : List Int) (w : World) (s i : Value) (wr : World) : Prop := ∃ k : Nat, k ≤ xs.length ∧ s = .int .i64 (leftK xs k) ∧ i = .int .i64 k ∧ w = wr

set_option maxHeartbeats 1000000 in
theorem sleft_any (n : Int) (a : Option Addr) (cap : Nat) (xs : List Int) (w : World) (h : IntsAt w a xs) :
    Calls Try.prog 28 #[.int .i64 n, .slice a xs.length cap] w fun e w' => e = .returned (.int .i64 (leftW n xs)) ∧ w = w' := by
  have cg := sgame_any n a cap xs w h
  have hm := h.1
  unfold maxLen at hm
  have H := Lib.hid h
  clear h
  cases hg : gameB n xs
  · rw [leftW_f hg]
    rw [hg] at cg
    go_enter Try.func28, Try.ntmps28
    go_wp2_with fail
    refine cg.mono ?_
    rintro e w' ⟨rfl, rfl⟩
    clear cg
    go_wp2_with fail
    go_ret
    exact ⟨rfl, rfl⟩
  · rw [leftW_t hg]
    rw [hg] at cg
    have hge := Lib.hid (gameB_of hg).2.2
    have hl3 := (gameB_of hg).2.1.2
    have hle := Lib.hid (left_le (fun k hk => ((gameB_of hg).2.2 k hk).1))
    clear hg
    go_enter Try.func28, Try.ntmps28
    go_wp2_with fail
    refine cg.mono ?_
    rintro e w' ⟨rfl, rfl⟩
    clear cg
    go_wp2_with fail
    go_loopw [5, 6] (fun s i wr => LeftRel xs w s i wr) (fun _ i _ => xs.length - (intOf i).toNat)
    case atStart => exact ⟨0, by omega, rfl, rfl, rfl⟩
    case round =>
      obtain ⟨k, hk, rfl, rfl, rfl⟩ := hrel
      by_cases hlt : k < xs.length
      · rcases H.out.2 with h0 | ⟨bx, ox, rfl, hbx, hcx⟩
        · rw [h0] at hlt; simp at hlt
        have hc := hcx k hlt
        have b1 := hle.out k (by omega)
        have hs : leftK xs (k + 1) = leftK xs k + (if xs.getD k 0 < 1 then xs.getD k 0 else 1) := rfl
        have v0 := (hge.out k hlt).1
        obtain ⟨b2, b3, _, _⟩ := b1
        clear hcx hbx
        generalize xs.getD k 0 = q at *
        generalize leftK xs k = s at *
        by_cases hq : q < 1
        · rw [if_pos hq] at hs
          have HS := Lib.hid hs
          clear hs
          go_wp2_with fail
          all_goals
            go_roundw
            case rel => exact ⟨k + 1, by omega, by first | (rw [HS.out]; done) | (rw [HS.out]; go_num), by go_num, rfl⟩
            case measure => simp [intOf]; omega
        · rw [if_neg hq] at hs
          have HS := Lib.hid hs
          clear hs
          go_wp2_with fail
          all_goals
            go_roundw
            case rel => exact ⟨k + 1, by omega, by first | (rw [HS.out]; done) | (rw [HS.out]; refine congrArg (Value.int .i64) ?_; omega) | (rw [HS.out]; go_num), by go_num, rfl⟩
            case measure => simp [intOf]; omega
      · obtain rfl : k = xs.length := by omega
        go_wp2_with fail
        go_ret
        exact ⟨rfl, rfl⟩

end Go.Proofs.Ythfikgaghinfbaa
