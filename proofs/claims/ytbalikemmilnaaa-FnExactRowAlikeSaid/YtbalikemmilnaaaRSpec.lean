/-
  The model's FarOf, AlikeOf, RowOk, RowFar, RowAlike. No condition.
-/
import Derived.Test.YtbalikemmilnaaaFar
import Derived.Test.YtbalikemmilnaaaInts
import Derived.Test.YtbalikemmilnaaaSign
import Derived.Test.YtbalikemmilnaaaFCell
import Derived.Deep.RegionHeld3
import Derived.IntWalk
namespace Go.Proofs.Ytbalikemmilnaaa
open Go.RowKit

theorem sfar_any (n a b : Int) (w : World) :
    Calls Try.prog 17 #[.int .i64 n, .int .i64 a, .int .i64 b] w fun e w' => e = .returned (.int .i64 (farW n a b)) ∧ w = w' := by
  cases h : twoB n a b
  · rw [farW_f h]
    go_enter Try.func17, Try.ntmps17
    go_wp2_with (go_at_call 46; refine (two_any _ _ _ _).mono ?_; rintro e w' ⟨rfl, rfl⟩)
    go_ret
    exact ⟨rfl, rfl⟩
  · obtain ⟨_, _, k1, k2, k3, k4, k5, k6⟩ := twoB_of h
    rw [farW_t h]
    unfold gap
    by_cases hc : a ≤ b
    · rw [if_pos hc]
      go_enter Try.func17, Try.ntmps17
      go_wp2_with (go_at_call 46; refine (two_any _ _ _ _).mono ?_; rintro e w' ⟨rfl, rfl⟩)
      all_goals
        go_ret
        exact ⟨by first | rfl | (refine congrArg (fun z : Int => Ending.returned (Value.int .i64 z)) ?_; omega), rfl⟩
    · rw [if_neg hc]
      go_enter Try.func17, Try.ntmps17
      go_wp2_with (go_at_call 46; refine (two_any _ _ _ _).mono ?_; rintro e w' ⟨rfl, rfl⟩)
      all_goals
        go_ret
        exact ⟨by first | rfl | (refine congrArg (fun z : Int => Ending.returned (Value.int .i64 z)) ?_; omega), rfl⟩

theorem salk_any (n a b : Int) (w : World) :
    Calls Try.prog 25 #[.int .i64 n, .int .i64 a, .int .i64 b] w fun e w' => e = .returned (.int .i64 (alkW n a b)) ∧ w = w' := by
  have cf := sfar_any n a b w
  cases h : twoB n a b
  · rw [alkW_f h]
    clear cf
    go_enter Try.func25, Try.ntmps25
    go_wp2_with (go_at_call 46; refine (two_any _ _ _ _).mono ?_; rintro e w' ⟨rfl, rfl⟩)
    go_ret
    exact ⟨rfl, rfl⟩
  · obtain ⟨_, _, k1, k2, k3, k4, k5, k6⟩ := twoB_of h
    rw [farW_t h] at cf
    rw [alkW_t h]
    have g1 := gap_le h
    have g2 := gap_pos a b
    generalize gap a b = g at *
    go_enter Try.func25, Try.ntmps25
    go_wp2_with (first | (go_at_call 46; refine (two_any _ _ _ _).mono ?_; rintro e w' ⟨rfl, rfl⟩) | (go_at_call 17; refine cf.mono ?_; rintro e w' ⟨rfl, rfl⟩))
    go_ret
    exact ⟨rfl, rfl⟩

/-! Rows. -/
theorem rowB_of {n : Int} {l : List Int} (h : rowB n l = true) : (1 ≤ n ∧ n ≤ 6) ∧ (1 ≤ l.length ∧ l.length ≤ 7) ∧ ∀ j, j < l.length → vokB n (l.getD j 0) = true := by
  unfold rowB at h
  rw [Bool.and_eq_true, Bool.and_eq_true, List.all_eq_true] at h
  have h1 := inB_of h.1.1
  have h2 := inB_of h.1.2
  refine ⟨h1, by omega, fun j hj => h.2 _ ?_⟩
  rw [List.getD_eq_getElem?_getD, List.getElem?_eq_getElem hj, Option.getD_some]
  exact List.getElem_mem hj
theorem rowB_no {n : Int} {l : List Int} {k : Nat} (hk : k < l.length) (h : vokB n (l.getD k 0) = false) : rowB n l = false := by
  cases e : rowB n l
  · rfl
  · have := (rowB_of e).2.2 k hk
    rw [h] at this; cases this
theorem rowB_end {n : Int} {l : List Int} (h : ∀ j, j < l.length → vokB n (l.getD j 0) = true) : rowB n l = (inB l.length 1 7 && inB n 1 6) := by
  have : l.all (vokB n) = true := by
    rw [List.all_eq_true]
    intro x hx
    obtain ⟨j, hj, rfl⟩ := List.mem_iff_getElem.1 hx
    have := h j hj
    rwa [List.getD_eq_getElem?_getD, List.getElem?_eq_getElem hj, Option.getD_some] at this
  unfold rowB
  rw [this, Bool.and_true, Bool.and_comm]
def RokRel (n : Int) (xs : List Int) (w : World) (i : Value) (wr : World) : Prop := ∃ k : Nat, k ≤ xs.length ∧ i = .int .i64 k ∧ (∀ j, j < k → vokB n (xs.getD j 0) = true) ∧ w = wr

set_option maxHeartbeats 1000000 in
theorem srow_any (n : Int) (a : Option Addr) (cap : Nat) (xs : List Int) (w : World) (h : IntsAt w a xs) :
    Calls Try.prog 29 #[.int .i64 n, .slice a xs.length cap] w fun e w' => e = .returned (.bool (rowB n xs)) ∧ w = w' := by
  have hm := h.1
  unfold maxLen at hm
  have H := Lib.hid h
  clear h
  go_enter Try.func29, Try.ntmps29
  go_wp2_with fail
  go_loopw [5] (fun i wr => RokRel n xs w i wr) (fun i _ => xs.length - (intOf i).toNat)
  case atStart => exact ⟨0, by omega, rfl, fun j hj => absurd hj (by omega), rfl⟩
  case round =>
    obtain ⟨k, hk, rfl, hb, rfl⟩ := hrel
    have Hb := Lib.hid hb
    clear hb
    by_cases hlt : k < xs.length
    · rcases H.out.2 with h0 | ⟨bx, ox, rfl, hbx, hcx⟩
      · rw [h0] at hlt; simp at hlt
      have hc := hcx k hlt
      clear hcx hbx
      cases hv : vokB n (xs.getD k 0)
      · have hz := Lib.hid (rowB_no hlt hv)
        generalize xs.getD k 0 = q at *
        go_wp2_with (go_at_call 54; refine (svok_any _ _ _).mono ?_; rintro e w' ⟨rfl, rfl⟩)
        go_ret
        exact ⟨by rw [hz.out]; rfl, rfl⟩
      · have hn : Hid (∀ j, j < k + 1 → vokB n (xs.getD j 0) = true) := fun j hj => by
          by_cases e : j = k
          · rw [e]; exact hv
          · exact Hb.out j (by omega)
        generalize xs.getD k 0 = q at *
        go_wp2_with (go_at_call 54; refine (svok_any _ _ _).mono ?_; rintro e w' ⟨rfl, rfl⟩)
        go_roundw
        case rel => exact ⟨k + 1, by omega, by go_num, hn.out, rfl⟩
        case measure => simp [intOf]; omega
    · obtain rfl : k = xs.length := by omega
      have hz := Lib.hid (rowB_end Hb.out)
      cases h1 : inB (xs.length : Int) 1 7
      · go_wp2_with (go_at_call 55; refine (in_any _ _ _ _).mono ?_; rintro e w' ⟨rfl, rfl⟩)
        go_ret
        exact ⟨by rw [hz.out, h1]; rfl, rfl⟩
      · cases h2 : inB n 1 6
        all_goals
          go_wp2_with (go_at_call 55; refine (in_any _ _ _ _).mono ?_; rintro e w' ⟨rfl, rfl⟩)
          go_ret
          exact ⟨by rw [hz.out, h1, h2]; rfl, rfl⟩

/-- Two rows of a chain, of as many values. -/
def rowsB (n : Int) (x y : List Int) : Bool := rowB n x && (rowB n y && decide (x.length = y.length))
theorem rowsB_of {n : Int} {x y : List Int} (h : rowsB n x y = true) : rowB n x = true ∧ rowB n y = true ∧ x.length = y.length := by
  unfold rowsB at h
  simpa using h
def rfarW (n : Int) (x y : List Int) : Int := if rowsB n x y = true then gapS x y x.length else -1
theorem rfarW_t {n : Int} {x y : List Int} (h : rowsB n x y = true) : rfarW n x y = gapS x y x.length := if_pos h
theorem rfarW_f {n : Int} {x y : List Int} (h : rowsB n x y = false) : rfarW n x y = -1 := if_neg (by rw [h]; simp)
def ralkW (n : Int) (x y : List Int) : Int := if rowsB n x y = true then alkM n x y x.length else -1
theorem ralkW_t {n : Int} {x y : List Int} (h : rowsB n x y = true) : ralkW n x y = alkM n x y x.length := if_pos h
theorem ralkW_f {n : Int} {x y : List Int} (h : rowsB n x y = false) : ralkW n x y = -1 := if_neg (by rw [h]; simp)
theorem rows_at {n : Int} {x y : List Int} (h : rowsB n x y = true) {k : Nat} (hk : k < x.length) : twoB n (x.getD k 0) (y.getD k 0) = true := by
  obtain ⟨h1, h2, h3⟩ := rowsB_of h
  exact twoB_mk ((rowB_of h1).2.2 k hk) ((rowB_of h2).2.2 k (by omega))
theorem gapS_le {n : Int} {x y : List Int} (h : rowsB n x y = true) : ∀ k, k ≤ x.length → gapS x y k ≤ 6 * k := by
  have hn := (rowB_of (rowsB_of h).1).1
  intro k
  induction k with
  | zero => intro _; exact Int.le_refl _
  | succ k ih =>
    intro hk
    have h1 := ih (by omega)
    have h2 := gap_le (rows_at h (k := k) (by omega))
    unfold gapS
    omega
theorem alkM_pos {n : Int} {x y : List Int} (h : rowsB n x y = true) : ∀ k, k ≤ x.length → 0 ≤ alkM n x y k := by
  have hn := (rowB_of (rowsB_of h).1).1
  intro k
  induction k with
  | zero => intro _; show 0 ≤ n; omega
  | succ k ih =>
    intro hk
    have h1 := ih (by omega)
    have h2 := gap_le (rows_at h (k := k) (by omega))
    unfold alkM
    split <;> omega
theorem alkM_min (n : Int) (x y : List Int) (k : Nat) : (if n - gap (x.getD k 0) (y.getD k 0) < alkM n x y k then n - gap (x.getD k 0) (y.getD k 0) else alkM n x y k) = alkM n x y (k + 1) := by
  show _ = (if alkM n x y k ≤ n - gap (x.getD k 0) (y.getD k 0) then _ else _)
  split <;> split <;> omega

def RfRel (x y : List Int) (w : World) (s i : Value) (wr : World) : Prop := ∃ k : Nat, k ≤ x.length ∧ i = .int .i64 k ∧ s = .int .i64 (gapS x y k) ∧ w.grownBy wr none

theorem srow_is (n : Int) (a : Option Addr) (cap : Nat) (xs : List Int) {v : Bool} (hv : rowB n xs = v) (w : World) (h : IntsAt w a xs) :
    Calls Try.prog 29 #[.int .i64 n, .slice a xs.length cap] w fun e w' => e = .returned (.bool v) ∧ w = w' := by rw [← hv]; exact srow_any n a cap xs w h

set_option maxRecDepth 100000 in
set_option maxHeartbeats 4000000 in
theorem srfar_any (n : Int) (a b : Option Addr) (ca cb : Nat) (x y : List Int) (w : World) (hx : IntsAt w a x) (hy : IntsAt w b y) :
    Calls Try.prog 32 #[.int .i64 n, .slice a x.length ca, .slice b y.length cb] w fun e w' => e = .returned (.int .i64 (rfarW n x y)) ∧ w.grownBy w' none := by
  have hm := hx.1
  have hm2 := hy.1
  unfold maxLen at hm hm2
  have Hx := Lib.hid hx
  have Hy := Lib.hid hy
  clear hx hy
  cases hr : rowsB n x y
  · rw [rfarW_f hr]
    unfold rowsB at hr
    cases h1 : rowB n x
    · have c1 := srow_is n a ca x h1 w Hx.out
      clear hr h1
      go_enter Try.func32, Try.ntmps32
      go_wp2_with (go_at_call 29; refine c1.mono ?_; clear c1; rintro e w' ⟨rfl, rfl⟩)
      go_ret
      exact ⟨rfl, grownBy_refl _ _⟩
    · cases h2 : rowB n y
      · have c1 := srow_is n a ca x h1 w Hx.out
        have c2 := srow_is n b cb y h2 w Hy.out
        clear hr h1 h2
        go_enter Try.func32, Try.ntmps32
        go_wp2_with fail
        refine c1.mono ?_
        clear c1
        rintro e w' ⟨rfl, rfl⟩
        go_wp2_with fail
        refine c2.mono ?_
        clear c2
        rintro e w' ⟨rfl, rfl⟩
        go_wp2_with fail
        go_ret
        exact ⟨rfl, grownBy_refl _ _⟩
      · have hl : ¬ x.length = y.length := by rw [h1, h2] at hr; simpa using hr
        have g0 : ((x.length : Int) != (y.length : Int)) = true := by simp; omega
        have c1 := srow_is n a ca x h1 w Hx.out
        have c2 := srow_is n b cb y h2 w Hy.out
        clear hr h1 h2 hl
        go_enter Try.func32, Try.ntmps32
        go_wp2_with fail
        refine c1.mono ?_
        clear c1
        rintro e w' ⟨rfl, rfl⟩
        go_wp2_with fail
        refine c2.mono ?_
        clear c2
        rintro e w' ⟨rfl, rfl⟩
        go_wp2_with fail
        go_ret
        exact ⟨rfl, grownBy_refl _ _⟩
  · rw [rfarW_t hr]
    obtain ⟨h1, h2, hl⟩ := rowsB_of hr
    have g0 : ((x.length : Int) != (y.length : Int)) = false := by simp; omega
    have hx7 := (rowB_of h1).2.1
    have c1 := srow_is n a ca x h1 w Hx.out
    have c2 := srow_is n b cb y h2 w Hy.out
    have Hr := Lib.hid hr
    have Hl := Lib.hid hl
    clear hr h1 h2 hl
    go_enter Try.func32, Try.ntmps32
    go_wp2_with fail
    refine c1.mono ?_
    clear c1
    rintro e w' ⟨rfl, rfl⟩
    go_wp2_with fail
    refine c2.mono ?_
    clear c2
    rintro e w' ⟨rfl, rfl⟩
    go_wp2_with fail
    clear g0
    go_loopw [7, 8] (fun s i wr => RfRel x y w s i wr) (fun _ i _ => x.length - (intOf i).toNat)
    case atStart => exact ⟨0, by omega, rfl, rfl, grownBy_refl _ _⟩
    case round =>
      obtain ⟨k, hk, rfl, rfl, hgr⟩ := hrel
      have s0 := gapS_pos x y k
      have s1 := gapS_le Hr.out k hk
      by_cases hlt : k < x.length
      · rcases (Hx.out.grown hgr).2 with h0 | ⟨bx, ox, rfl, hbx, hcx⟩
        · rw [h0] at hlt; simp at hlt
        rcases (Hy.out.grown hgr).2 with h0 | ⟨by', oy, rfl, hby, hcy⟩
        · have := Hl.out; rw [h0] at this; simp only [List.length_nil] at this; omega
        have hc1 := hcx k hlt
        have hc2 := hcy k (by have := Hl.out; omega)
        have hly : k < y.length := by have := Hl.out; omega
        have i0 : (0 : Int) ≤ (k : Int) := by omega
        have i1 : (k : Int) < (x.length : Int) := by omega
        have i2 : (k : Int) < (y.length : Int) := by omega
        have ht := rows_at Hr.out hlt
        have g1 := gap_le ht
        have hn6 := (twoB_of ht).2.2.2.1
        have g2 := gap_pos (x.getD k 0) (y.getD k 0)
        have cf : ∀ w, Calls Try.prog 17 #[.int .i64 n, .int .i64 (x.getD k 0), .int .i64 (y.getD k 0)] w fun e w' => e = .returned (.int .i64 (gap (x.getD k 0) (y.getD k 0))) ∧ w = w' := fun w => by rw [← farW_t ht]; exact sfar_any _ _ _ w
        have hS : Hid (gapS x y k + gap (x.getD k 0) (y.getD k 0) = gapS x y (k + 1)) := rfl
        have hb0 : wr.drew.cell? ⟨bx, ox + k, none⟩ = some (.int .i64 (x.getD k 0)) ∧ wr.drew.cell? ⟨by', oy + k, none⟩ = some (.int .i64 (y.getD k 0)) ∧ w.grownBy wr.drew none := ⟨hc1, hc2, grownBy_drew hgr⟩
        clear hcx hcy hbx hby ht
        generalize gap (x.getD k 0) (y.getD k 0) = G at *
        generalize gapS x y k = S at *
        have hw : IntKind.i64.wrap (S + G) = S + G := IntWalk.i64_in _ (by omega)
        generalize x.getD k 0 = p at *
        generalize y.getD k 0 = q at *
        go_wp2_with fail
        go_region_held3 (fun w' => w'.cell? ⟨bx, ox + k, none⟩ = some (.int .i64 p) ∧ w'.cell? ⟨by', oy + k, none⟩ = some (.int .i64 q) ∧ w.grownBy w' none) (first | exact hb0 | assumption)
          (first | (go_at_call 17; refine (cf _).mono ?_; rintro e w2 ⟨rfl, rfl⟩))
        go_wp2_with fail
        go_roundw
        case rel => exact ⟨k + 1, by omega, by go_num, by rw [← hS.out], grownBy_drew hgr⟩
        case measure => simp [intOf]; omega
      · obtain rfl : k = x.length := by omega
        go_wp2_with fail
        go_ret
        exact ⟨rfl, hgr⟩

theorem rfar_neg {n : Int} {x y : List Int} (h : rowsB n x y = false) : decide (rfarW n x y < 0) = true := by rw [rfarW_f h]; rfl
theorem rfar_pos {n : Int} {x y : List Int} (h : rowsB n x y = true) : decide (rfarW n x y < 0) = false := by
  rw [rfarW_t h]
  exact decide_eq_false (by have := gapS_pos x y x.length; omega)
def RaRel (n : Int) (x y : List Int) (w : World) (s i : Value) (wr : World) : Prop := ∃ k : Nat, k ≤ x.length ∧ i = .int .i64 k ∧ s = .int .i64 (alkM n x y k) ∧ w.grownBy wr none

set_option maxRecDepth 100000 in
set_option maxHeartbeats 4000000 in
theorem sralk_any (n : Int) (a b : Option Addr) (ca cb : Nat) (x y : List Int) (w : World) (hx : IntsAt w a x) (hy : IntsAt w b y) :
    Calls Try.prog 36 #[.int .i64 n, .slice a x.length ca, .slice b y.length cb] w fun e w' => e = .returned (.int .i64 (ralkW n x y)) ∧ w.grownBy w' none := by
  have hm := hx.1
  have hm2 := hy.1
  unfold maxLen at hm hm2
  have c1 := srfar_any n a b ca cb x y w hx hy
  have Hx := Lib.hid hx
  have Hy := Lib.hid hy
  clear hx hy
  cases hr : rowsB n x y
  · rw [ralkW_f hr]
    have hd := rfar_neg hr
    clear hr
    generalize rfarW n x y = R at *
    go_enter Try.func36, Try.ntmps36
    go_wp2_with fail
    refine c1.mono ?_
    clear c1
    rintro e w1 ⟨rfl, g1⟩
    go_wp2_with fail
    go_ret
    exact ⟨rfl, g1⟩
  · rw [ralkW_t hr]
    have hd := rfar_pos hr
    obtain ⟨h1, h2, hl⟩ := rowsB_of hr
    have hx7 := (rowB_of h1).2.1
    have Hr := Lib.hid hr
    have Hl := Lib.hid hl
    clear hr h1 h2 hl
    generalize rfarW n x y = R at *
    go_enter Try.func36, Try.ntmps36
    go_wp2_with fail
    refine c1.mono ?_
    clear c1
    rintro e w1 ⟨rfl, g1⟩
    go_wp2_with fail
    clear hd
    go_loopw [7, 8] (fun s i wr => RaRel n x y w s i wr) (fun _ i _ => x.length - (intOf i).toNat)
    case atStart => exact ⟨0, by omega, rfl, rfl, g1⟩
    case round =>
      obtain ⟨k, hk, rfl, rfl, hgr⟩ := hrel
      by_cases hlt : k < x.length
      · rcases (Hx.out.grown hgr).2 with h0 | ⟨bx, ox, rfl, hbx, hcx⟩
        · rw [h0] at hlt; simp at hlt
        rcases (Hy.out.grown hgr).2 with h0 | ⟨by', oy, rfl, hby, hcy⟩
        · have := Hl.out; rw [h0] at this; simp only [List.length_nil] at this; omega
        have hc1 := hcx k hlt
        have hc2 := hcy k (by have := Hl.out; omega)
        have hly : k < y.length := by have := Hl.out; omega
        have i0 : (0 : Int) ≤ (k : Int) := by omega
        have i1 : (k : Int) < (x.length : Int) := by omega
        have i2 : (k : Int) < (y.length : Int) := by omega
        have ht := rows_at Hr.out hlt
        have ca : ∀ w, Calls Try.prog 25 #[.int .i64 n, .int .i64 (x.getD k 0), .int .i64 (y.getD k 0)] w fun e w' => e = .returned (.int .i64 (n - gap (x.getD k 0) (y.getD k 0))) ∧ w = w' := fun w => by rw [← alkW_t ht]; exact salk_any _ _ _ w
        have hS : Hid ((if n - gap (x.getD k 0) (y.getD k 0) < alkM n x y k then n - gap (x.getD k 0) (y.getD k 0) else alkM n x y k) = alkM n x y (k + 1)) := alkM_min n x y k
        have hb0 : wr.drew.cell? ⟨bx, ox + k, none⟩ = some (.int .i64 (x.getD k 0)) ∧ wr.drew.cell? ⟨by', oy + k, none⟩ = some (.int .i64 (y.getD k 0)) ∧ w.grownBy wr.drew none := ⟨hc1, hc2, grownBy_drew hgr⟩
        clear hcx hcy hbx hby ht
        generalize n - gap (x.getD k 0) (y.getD k 0) = G at *
        generalize alkM n x y k = S at *
        generalize x.getD k 0 = p at *
        generalize y.getD k 0 = q at *
        go_wp2_with fail
        go_region_held3 (fun w' => w'.cell? ⟨bx, ox + k, none⟩ = some (.int .i64 p) ∧ w'.cell? ⟨by', oy + k, none⟩ = some (.int .i64 q) ∧ w.grownBy w' none) (first | exact hb0 | assumption)
          (first | (go_at_call 25; refine (ca _).mono ?_; rintro e w2 ⟨rfl, rfl⟩))
        go_wp2_with fail
        go_roundw
        case rel => exact ⟨k + 1, by omega, by go_num, by rw [← hS.out], grownBy_drew hgr⟩
        case measure => simp [intOf]; omega
      · obtain rfl : k = x.length := by omega
        go_wp2_with fail
        go_ret
        exact ⟨rfl, hgr⟩

end Go.Proofs.Ytbalikemmilnaaa
