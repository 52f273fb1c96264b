/-
  impl's RowOk at rows of at most three values, and impl's GameOk, questionsOk, LeftOf. No condition.
-/
import Derived.Test.YthfikgaghinfbaaLSpec8
namespace Go.Proofs.Ythfikgaghinfbaa
open Go.RowKit

theorem lrok1_any (n v : Int) (B : Nat) (w : World) (h : w.cell? ⟨B, 0, none⟩ = some (.int .i64 n)) :
    Calls Try.prog 66 #[.int .i64 v, .pointer (some ⟨B, 0, none⟩)] w fun e w' => e = .returned (.bool (!vokB n v)) ∧ w = w' := by
  go_enter Try.func66, Try.ntmps66
  go_wp2_with (go_at_call 50; refine (vok_any _ _ _).mono ?_; rintro e w' ⟨rfl, rfl⟩)
  go_ret
  exact ⟨rfl, rfl⟩

theorem lall_no {n : Int} {l : List Int} {k : Nat} (hk : k < l.length) (h : vokB n (l.getD k 0) = false) : l.all (vokB n) = false := by
  rw [List.all_eq_false]
  refine ⟨l[k], List.getElem_mem hk, ?_⟩
  rw [List.getD_eq_getElem?_getD, List.getElem?_eq_getElem hk, Option.getD_some] at h
  rw [h]; simp
theorem lall_yes {n : Int} {l : List Int} (h : ∀ j, j < l.length → vokB n (l.getD j 0) = true) : l.all (vokB n) = true := by
  rw [List.all_eq_true]
  intro x hx
  obtain ⟨j, hj, rfl⟩ := List.mem_iff_getElem.1 hx
  have := h j hj
  rwa [List.getD_eq_getElem?_getD, List.getElem?_eq_getElem hj, Option.getD_some] at this

def LixRel (n : Int) (xs : List Int) (w : World) (i : Value) (wr : World) : Prop := ∃ k : Nat, k ≤ xs.length ∧ i = .int .i64 k ∧ (∀ j, j < k → vokB n (xs.getD j 0) = true) ∧ w = wr
/-- The place of the first one that is no value, or one below 0: told by its sign alone. -/
def LixPost (n : Int) (xs : List Int) (w : World) (e : Ending) (w' : World) : Prop := ∃ r : Int, e = .returned (.int .i64 r) ∧ decide (r ≥ 0) = (!xs.all (vokB n)) ∧ w = w'

set_option maxHeartbeats 1000000 in
theorem lidx_any (n : Int) (a : Option Addr) (cap : Nat) (xs : List Int) (B : Nat) (w : World) (h : IntsAt w a xs) (hB : w.cell? ⟨B, 0, none⟩ = some (.int .i64 n)) :
    Calls Try.prog 80 #[.slice a xs.length cap, .func (.func 66) #[] #[.pointer (some ⟨B, 0, none⟩)]] w (LixPost n xs w) := by
  have hm := h.1
  unfold maxLen at hm
  have H := Lib.hid h
  have c1 := fun v => lrok1_any n v B w hB
  clear h hB
  go_enter Try.func80, Try.ntmps80
  go_wp2_with fail
  go_loopw [8] (fun i wr => LixRel n xs w i wr) (fun i _ => xs.length - (intOf i).toNat)
  case atStart => exact ⟨0, by omega, rfl, fun j hj => absurd hj (by omega), rfl⟩
  case round =>
    obtain ⟨k, hk, rfl, hb, rfl⟩ := hrel
    have Hb := Lib.hid hb
    clear hb
    by_cases hlt : k < xs.length
    · rcases H.out.2 with h0 | ⟨bx, ox, rfl, hbx, hcx⟩
      · rw [h0] at hlt; simp at hlt
      have hc := hcx k hlt
      clear hcx hbx
      cases hv : vokB n (xs.getD k 0)
      · have hz := Lib.hid (lall_no hlt hv)
        generalize xs.getD k 0 = q at *
        go_wp2_with (go_at_call 66; refine (c1 _).mono ?_; rintro e w' ⟨rfl, rfl⟩)
        go_ret
        exact ⟨_, rfl, by rw [hz.out]; exact decide_eq_true (by omega), rfl⟩
      · have hn : Hid (∀ j, j < k + 1 → vokB n (xs.getD j 0) = true) := fun j hj => by
          by_cases e : j = k
          · rw [e]; exact hv
          · exact Hb.out j (by omega)
        generalize xs.getD k 0 = q at *
        go_wp2_with (go_at_call 66; refine (c1 _).mono ?_; rintro e w' ⟨rfl, rfl⟩)
        go_roundw
        case rel => exact ⟨k + 1, by omega, by go_num, hn.out, rfl⟩
        case measure => simp [intOf]; omega
    · obtain rfl : k = xs.length := by omega
      have hz := Lib.hid (lall_yes Hb.out)
      go_wp2_with fail
      go_ret
      exact ⟨_, rfl, by rw [hz.out]; rfl, rfl⟩

theorem lhas_any (n : Int) (a : Option Addr) (cap : Nat) (xs : List Int) (B : Nat) (w : World) (h : IntsAt w a xs) (hB : w.cell? ⟨B, 0, none⟩ = some (.int .i64 n)) :
    Calls Try.prog 65 #[.slice a xs.length cap, .func (.func 66) #[] #[.pointer (some ⟨B, 0, none⟩)]] w fun e w' => e = .returned (.bool (!xs.all (vokB n))) ∧ w = w' := by
  have c1 := lidx_any n a cap xs B w h hB
  clear h hB
  go_enter Try.func65, Try.ntmps65
  go_wp2_with fail
  refine c1.mono ?_
  rintro e w' ⟨r, rfl, hr, rfl⟩
  clear c1
  go_wp2_with fail
  go_ret
  exact ⟨by rw [← hr]; rfl, rfl⟩

theorem lcell_new (w : World) (v : Value) (t : TypeId) : (w.alloc (.cells #[v] t)).cell? ⟨w.heap.size, 0, none⟩ = some v := by
  have h := heap_alloc_new w (.cells #[v] t)
  exact cell_of_row _ _ 0 _ _ _ h

def lrowB (n : Int) (xs : List Int) : Bool := inB xs.length 1 7 && xs.all (vokB n)
theorem lrow_any (n : Int) (a : Option Addr) (cap : Nat) (xs : List Int) (w : World) (h : IntsAt w a xs) :
    Calls Try.prog 47 #[.int .i64 n, .slice a xs.length cap] w fun e w' => e = .returned (.bool (lrowB n xs)) ∧ w.grownBy w' none := by
  have hm := h.1
  unfold maxLen at hm
  by_cases hl : 1 ≤ xs.length ∧ xs.length ≤ 7
  · have hz : Hid (lrowB n xs = xs.all (vokB n)) := by unfold Hid lrowB; rw [inB_t (by omega), Bool.true_and]
    have g0 : w.grownBy (w.alloc (.cells #[.int .i64 n] 3)) none := World.grownBy_alloc _ _ none
    have c1 := lhas_any n a cap xs w.heap.size (w.alloc (.cells #[.int .i64 n] 3)) (h.grown g0) (lcell_new _ _ _)
    have l1 : ¬ ((xs.length : Int) < 1) := by omega
    have l2 : ¬ ((7 : Int) < (xs.length : Int)) := by omega
    clear h
    go_enter Try.func47, Try.ntmps47
    go_wp2_with fail
    refine c1.mono ?_
    rintro e w' ⟨rfl, rfl⟩
    clear c1
    go_wp2_with fail
    go_ret
    exact ⟨by rw [hz.out]; rfl, g0⟩
  · have hz : Hid (lrowB n xs = false) := by unfold Hid lrowB; rw [inB_f (by omega), Bool.false_and]
    clear h
    by_cases l1 : (xs.length : Int) < 1
    · go_enter Try.func47, Try.ntmps47
      go_wp2_with fail
      go_ret
      exact ⟨by rw [hz.out]; rfl, World.grownBy_alloc _ _ none⟩
    · have l2 : (7 : Int) < (xs.length : Int) := by omega
      go_enter Try.func47, Try.ntmps47
      go_wp2_with fail
      go_ret
      exact ⟨by rw [hz.out]; rfl, World.grownBy_alloc _ _ none⟩

theorem game_lrow {n : Int} {xs : List Int} (hn : n ≤ 3) (hl : xs.length ≤ 3) : gameB n xs = lrowB n xs := by
  unfold gameB lrowB
  by_cases h1 : 1 ≤ xs.length
  · rw [inB_t (n := (xs.length : Int)) (lo := 1) (hi := 3) (by omega), inB_t (n := (xs.length : Int)) (lo := 1) (hi := 7) (by omega), Bool.and_true, Bool.true_and]
    by_cases h2 : 1 ≤ n
    · rw [inB_t (by omega), Bool.and_true]
    · rw [inB_f (by omega), Bool.and_false]
      refine (lall_no (k := 0) (by omega) ?_).symm
      exact vokB_f (by omega)
  · rw [inB_f (n := (xs.length : Int)) (lo := 1) (hi := 3) (by omega), inB_f (n := (xs.length : Int)) (lo := 1) (hi := 7) (by omega), Bool.and_false, Bool.false_and, Bool.false_and]
theorem igame_any (n : Int) (a : Option Addr) (cap : Nat) (xs : List Int) (w : World) (h : IntsAt w a xs) :
    Calls Try.prog 18 #[.int .i64 n, .slice a xs.length cap] w fun e w' => e = .returned (.bool (gameB n xs)) ∧ w.grownBy w' none := by
  have hm := h.1
  unfold maxLen at hm
  by_cases hn : n ≤ 3
  · by_cases hl : (xs.length : Int) ≤ 3
    · rw [game_lrow hn (by omega)]
      have c1 := lrow_any n a cap xs w h
      clear h
      go_enter Try.func18, Try.ntmps18
      go_wp2_with fail
      refine c1.mono ?_
      rintro e w' ⟨rfl, g⟩
      clear c1
      go_wp2_with fail
      go_ret
      exact ⟨rfl, g⟩
    · have hz : Hid (gameB n xs = false) := by
        unfold Hid gameB; rw [inB_f (n := (xs.length : Int)) (lo := 1) (hi := 3) (by omega), Bool.and_false, Bool.false_and]
      clear h
      go_enter Try.func18, Try.ntmps18
      go_wp2_with fail
      go_ret
      exact ⟨by rw [hz.out]; rfl, grownBy_refl _ _⟩
  · have hz : Hid (gameB n xs = false) := by
      unfold Hid gameB; rw [inB_f (n := n) (lo := 1) (hi := 3) (by omega), Bool.and_false]
    clear h
    go_enter Try.func18, Try.ntmps18
    go_wp2_with fail
    go_ret
    exact ⟨by rw [hz.out]; rfl, grownBy_refl _ _⟩

theorem iques_any (n : Int) (a : Option Addr) (cap : Nat) (xs : List Int) (q : Int) (w : World) (h : IntsAt w a xs) :
    Calls Try.prog 55 #[.int .i64 n, .slice a xs.length cap, .int .i64 q] w fun e w' => e = .returned (.bool (gameB n xs && inB q 0 12)) ∧ w.grownBy w' none := by
  have cg := igame_any n a cap xs w h
  have hm := h.1
  unfold maxLen at hm
  clear h
  cases hg : gameB n xs
  · rw [hg] at cg
    go_enter Try.func55, Try.ntmps55
    go_wp2_with fail
    refine cg.mono ?_
    rintro e w' ⟨rfl, g⟩
    clear cg
    go_wp2_with fail
    go_ret
    exact ⟨rfl, g⟩
  · rw [hg] at cg
    by_cases h1 : 0 ≤ q
    · by_cases h2 : q ≤ 12
      · rw [inB_t ⟨h1, h2⟩]
        go_enter Try.func55, Try.ntmps55
        go_wp2_with fail
        refine cg.mono ?_
        rintro e w' ⟨rfl, g⟩
        clear cg
        go_wp2_with fail
        go_ret
        exact ⟨rfl, g⟩
      · rw [inB_f (by omega)]
        have h4 : decide (q ≤ 12) = false := by simpa using h2
        go_enter Try.func55, Try.ntmps55
        go_wp2_with fail
        refine cg.mono ?_
        rintro e w' ⟨rfl, g⟩
        clear cg
        go_wp2_with fail
        go_ret
        exact ⟨rfl, g⟩
    · rw [inB_f (by omega)]
      go_enter Try.func55, Try.ntmps55
      go_wp2_with fail
      refine cg.mono ?_
      rintro e w' ⟨rfl, g⟩
      clear cg
      go_wp2_with fail
      go_ret
      exact ⟨rfl, g⟩

def LifRel (xs : List Int) (w : World) (s i : Value) (wr : World) : Prop := ∃ k : Nat, k ≤ xs.length ∧ s = .int .i64 (leftK xs k) ∧ i = .int .i64 k ∧ w.grownBy wr none

set_option maxHeartbeats 1000000 in
theorem ileft_any (n : Int) (a : Option Addr) (cap : Nat) (xs : List Int) (w : World) (h : IntsAt w a xs) :
    Calls Try.prog 27 #[.int .i64 n, .slice a xs.length cap] w fun e w' => e = .returned (.int .i64 (leftW n xs)) ∧ w.grownBy w' none := by
  have cg := igame_any n a cap xs w h
  have hm := h.1
  unfold maxLen at hm
  have H := Lib.hid h
  clear h
  cases hg : gameB n xs
  · rw [leftW_f hg]
    rw [hg] at cg
    go_enter Try.func27, Try.ntmps27
    go_wp2_with fail
    refine cg.mono ?_
    rintro e w' ⟨rfl, g⟩
    clear cg
    go_wp2_with fail
    go_ret
    exact ⟨rfl, g⟩
  · rw [leftW_t hg]
    rw [hg] at cg
    have hge := Lib.hid (gameB_of hg).2.2
    have hl3 := (gameB_of hg).2.1.2
    have hle := Lib.hid (left_le (fun k hk => ((gameB_of hg).2.2 k hk).1))
    clear hg
    go_enter Try.func27, Try.ntmps27
    go_wp2_with fail
    refine cg.mono ?_
    rintro e w1 ⟨rfl, g1⟩
    clear cg
    go_wp2_with fail
    go_loopw [5, 14] (fun s i wr => LifRel xs w s i wr) (fun _ i _ => xs.length - (intOf i).toNat)
    case atStart => exact ⟨0, by omega, rfl, rfl, g1⟩
    case round =>
      obtain ⟨k, hk, rfl, rfl, hgr⟩ := hrel
      by_cases hlt : k < xs.length
      · rcases (H.out.grown hgr).2 with h0 | ⟨bx, ox, rfl, hbx, hcx⟩
        · rw [h0] at hlt; simp at hlt
        have hc := hcx k hlt
        have b1 := hle.out k (by omega)
        have hs : leftK xs (k + 1) = leftK xs k + (if xs.getD k 0 < 1 then xs.getD k 0 else 1) := rfl
        have v0 := (hge.out k hlt).1
        obtain ⟨b2, b3, _, _⟩ := b1
        clear hcx hbx
        generalize xs.getD k 0 = q at *
        generalize leftK xs k = s at *
        by_cases hq : q = 0
        · rw [if_pos (by omega)] at hs
          have HS := Lib.hid hs
          subst hq
          clear hs
          go_wp2_with fail
          go_roundw
          case rel => exact ⟨k + 1, by omega, by rw [HS.out]; refine congrArg (Value.int .i64) ?_; omega, by go_num, hgr⟩
          case measure => simp [intOf]; omega
        · rw [if_neg (by omega)] at hs
          have HS := Lib.hid hs
          have hq2 : (q != 0) = true := by simpa using hq
          have HQ := Lib.hid hq
          clear hs hq
          go_wp2_with fail
          go_roundw
          case rel => exact ⟨k + 1, by omega, by rw [HS.out], by go_num, hgr⟩
          case measure => simp [intOf]; omega
      · obtain rfl : k = xs.length := by omega
        go_wp2_with fail
        go_ret
        exact ⟨rfl, hgr⟩

end Go.Proofs.Ythfikgaghinfbaa
