/-
  impl's FarOf, AlikeOf, RowOk, RowFar, RowAlike: the generic functions of the library and of the program, and what they are handed: function literals that read the chain's steps. No condition.
-/
import Derived.Test.YtbalikemmilnaaaRC
import Derived.Test.YtbalikemmilnaaaAgn
namespace Go.Proofs.Ytbalikemmilnaaa
open Go.RowKit

theorem far0_any (n a b : Int) (w : World) :
    Calls Try.prog 16 #[.int .i64 n, .int .i64 a, .int .i64 b] w fun e w' => e = .returned (.int .i64 (farW n a b)) ∧ w = w' := by
  cases h1 : vokB n a
  · have h : twoB n a b = false := by unfold twoB; rw [h1]; rfl
    rw [farW_f h]
    clear h
    go_enter Try.func16, Try.ntmps16
    go_wp2_with (go_at_call 45; refine (vok_any _ _ _).mono ?_; rintro e w' ⟨rfl, rfl⟩)
    go_ret
    exact ⟨rfl, rfl⟩
  · cases h2 : vokB n b
    · have h : twoB n a b = false := by unfold twoB; rw [h1, h2]; rfl
      rw [farW_f h]
      clear h
      go_enter Try.func16, Try.ntmps16
      go_wp2_with (go_at_call 45; refine (vok_any _ _ _).mono ?_; rintro e w' ⟨rfl, rfl⟩)
      go_ret
      exact ⟨rfl, rfl⟩
    · rw [farW_t (twoB_mk h1 h2)]
      have k1 := vokB_of h1
      have k2 := vokB_of h2
      unfold gap
      by_cases hc : a ≤ b
      · rw [if_pos hc]
        go_enter Try.func16, Try.ntmps16
        go_wp2_with (go_at_call 45; refine (vok_any _ _ _).mono ?_; rintro e w' ⟨rfl, rfl⟩)
        all_goals
          go_ret
          exact ⟨by first | rfl | (refine congrArg (fun z : Int => Ending.returned (Value.int .i64 z)) ?_; omega), rfl⟩
      · rw [if_neg hc]
        go_enter Try.func16, Try.ntmps16
        go_wp2_with (go_at_call 45; refine (vok_any _ _ _).mono ?_; rintro e w' ⟨rfl, rfl⟩)
        all_goals
          go_ret
          exact ⟨by first | rfl | (refine congrArg (fun z : Int => Ending.returned (Value.int .i64 z)) ?_; omega), rfl⟩
theorem far_any : FarC := fun n a b w => (far0_any n a b w).mono fun _ _ h => ⟨h.1, by rw [h.2]; exact grownBy_refl _ _⟩

theorem alk0_any (n a b : Int) (w : World) :
    Calls Try.prog 24 #[.int .i64 n, .int .i64 a, .int .i64 b] w fun e w' => e = .returned (.int .i64 (alkW n a b)) ∧ w = w' := by
  have cf := far0_any n a b w
  cases h : twoB n a b
  · rw [farW_f h] at cf
    rw [alkW_f h]
    clear h
    go_enter Try.func24, Try.ntmps24
    go_wp2_with (go_at_call 16; refine cf.mono ?_; rintro e w' ⟨rfl, rfl⟩)
    go_ret
    exact ⟨rfl, rfl⟩
  · obtain ⟨_, _, k1, k2, k3, k4, k5, k6⟩ := twoB_of h
    rw [farW_t h] at cf
    rw [alkW_t h]
    have g1 := gap_le h
    have g2 := gap_pos a b
    generalize gap a b = g at *
    go_enter Try.func24, Try.ntmps24
    go_wp2_with (go_at_call 16; refine cf.mono ?_; rintro e w' ⟨rfl, rfl⟩)
    go_ret
    exact ⟨rfl, rfl⟩
theorem alk_any : AlkC := fun n a b w => (alk0_any n a b w).mono fun _ _ h => ⟨h.1, by rw [h.2]; exact grownBy_refl _ _⟩

/-! Rows. -/
theorem rok1_any (n v : Int) (B : Nat) (w : World) (h : w.cell? ⟨B, 0, none⟩ = some (.int .i64 n)) :
    Calls Try.prog 53 #[.int .i64 v, .pointer (some ⟨B, 0, none⟩)] w fun e w' => e = .returned (.bool (!vokB n v)) ∧ w = w' := by
  go_enter Try.func53, Try.ntmps53
  go_wp2_with (go_at_call 45; refine (vok_any _ _ _).mono ?_; rintro e w' ⟨rfl, rfl⟩)
  go_ret
  exact ⟨rfl, rfl⟩

theorem all_no {n : Int} {l : List Int} {k : Nat} (hk : k < l.length) (h : vokB n (l.getD k 0) = false) : l.all (vokB n) = false := by
  rw [List.all_eq_false]
  refine ⟨l[k], List.getElem_mem hk, ?_⟩
  rw [List.getD_eq_getElem?_getD, List.getElem?_eq_getElem hk, Option.getD_some] at h
  rw [h]; simp
theorem all_yes {n : Int} {l : List Int} (h : ∀ j, j < l.length → vokB n (l.getD j 0) = true) : l.all (vokB n) = true := by
  rw [List.all_eq_true]
  intro x hx
  obtain ⟨j, hj, rfl⟩ := List.mem_iff_getElem.1 hx
  have := h j hj
  rwa [List.getD_eq_getElem?_getD, List.getElem?_eq_getElem hj, Option.getD_some] at this

/-- The place of the first one that is no value, or one below 0: told by its sign alone. -/
def IdxPost (n : Int) (xs : List Int) (w : World) (e : Ending) (w' : World) : Prop := ∃ r : Int, e = .returned (.int .i64 r) ∧ decide (r ≥ 0) = (!xs.all (vokB n)) ∧ w = w'

set_option maxHeartbeats 1000000 in
theorem idx_any (n : Int) (a : Option Addr) (cap : Nat) (xs : List Int) (B : Nat) (w : World) (h : IntsAt w a xs) (hB : w.cell? ⟨B, 0, none⟩ = some (.int .i64 n)) :
    Calls Try.prog 73 #[.slice a xs.length cap, .func (.func 53) #[] #[.pointer (some ⟨B, 0, none⟩)]] w (IdxPost n xs w) := by
  have hm := h.1
  unfold maxLen at hm
  have H := Lib.hid h
  have c1 := fun v => rok1_any n v B w hB
  clear h hB
  go_enter Try.func73, Try.ntmps73
  go_wp2_with fail
  go_loopw [8] (fun i wr => RokRel n xs w i wr) (fun i _ => xs.length - (intOf i).toNat)
  case atStart => exact ⟨0, by omega, rfl, fun j hj => absurd hj (by omega), rfl⟩
  case round =>
    obtain ⟨k, hk, rfl, hb, rfl⟩ := hrel
    have Hb := Lib.hid hb
    clear hb
    by_cases hlt : k < xs.length
    · rcases H.out.2 with h0 | ⟨bx, ox, rfl, hbx, hcx⟩
      · rw [h0] at hlt; simp at hlt
      have hc := hcx k hlt
      clear hcx hbx
      cases hv : vokB n (xs.getD k 0)
      · have hz := Lib.hid (all_no hlt hv)
        generalize xs.getD k 0 = q at *
        go_wp2_with (go_at_call 53; refine (c1 _).mono ?_; rintro e w' ⟨rfl, rfl⟩)
        go_ret
        exact ⟨_, rfl, by rw [hz.out]; exact decide_eq_true (by omega), rfl⟩
      · have hn : Hid (∀ j, j < k + 1 → vokB n (xs.getD j 0) = true) := fun j hj => by
          by_cases e : j = k
          · rw [e]; exact hv
          · exact Hb.out j (by omega)
        generalize xs.getD k 0 = q at *
        go_wp2_with (go_at_call 53; refine (c1 _).mono ?_; rintro e w' ⟨rfl, rfl⟩)
        go_roundw
        case rel => exact ⟨k + 1, by omega, by go_num, hn.out, rfl⟩
        case measure => simp [intOf]; omega
    · obtain rfl : k = xs.length := by omega
      have hz := Lib.hid (all_yes Hb.out)
      go_wp2_with fail
      go_ret
      exact ⟨_, rfl, by rw [hz.out]; rfl, rfl⟩

theorem has_any (n : Int) (a : Option Addr) (cap : Nat) (xs : List Int) (B : Nat) (w : World) (h : IntsAt w a xs) (hB : w.cell? ⟨B, 0, none⟩ = some (.int .i64 n)) :
    Calls Try.prog 52 #[.slice a xs.length cap, .func (.func 53) #[] #[.pointer (some ⟨B, 0, none⟩)]] w fun e w' => e = .returned (.bool (!xs.all (vokB n))) ∧ w = w' := by
  have c1 := idx_any n a cap xs B w h hB
  clear h hB
  go_enter Try.func52, Try.ntmps52
  go_wp2_with fail
  refine c1.mono ?_
  rintro e w' ⟨r, rfl, hr, rfl⟩
  clear c1
  go_wp2_with fail
  go_ret
  exact ⟨by rw [← hr]; rfl, rfl⟩

theorem rowB_all {n : Int} {l : List Int} (h : 1 ≤ l.length ∧ l.length ≤ 7) : rowB n l = l.all (vokB n) := by
  unfold rowB
  rw [inB_t (n := (l.length : Int)) (by omega), Bool.and_true]
  cases hi : inB n 1 6
  · rw [Bool.false_and]
    refine (all_no (k := 0) (by omega) ?_).symm
    cases hv : vokB n (l.getD 0 0)
    · rfl
    · have := vokB_of hv
      rw [inB_t (by omega)] at hi
      cases hi
  · rw [Bool.true_and]
theorem rowB_len {n : Int} {l : List Int} (h : ¬ (1 ≤ l.length ∧ l.length ≤ 7)) : rowB n l = false := by
  cases e : rowB n l
  · rfl
  · exact absurd (rowB_of e).2.1 h

theorem row_any : RowC := fun n a cap xs w h => by
  have hm := h.1
  unfold maxLen at hm
  by_cases hl : 1 ≤ xs.length ∧ xs.length ≤ 7
  · rw [rowB_all hl]
    have g0 : w.grownBy (w.alloc (.cells #[.int .i64 n] 3)) none := World.grownBy_alloc _ _ none
    have c1 := has_any n a cap xs w.heap.size (w.alloc (.cells #[.int .i64 n] 3)) (h.grown g0) ((BlkAt.new w #[.int .i64 n] 3).cell rfl)
    have l1 : ¬ ((xs.length : Int) < 1) := by omega
    have l2 : ¬ ((7 : Int) < (xs.length : Int)) := by omega
    clear h
    go_enter Try.func28, Try.ntmps28
    go_wp2_with fail
    refine c1.mono ?_
    rintro e w' ⟨rfl, rfl⟩
    clear c1
    go_wp2_with fail
    go_ret
    exact ⟨rfl, g0⟩
  · rw [rowB_len hl]
    clear h
    by_cases l1 : (xs.length : Int) < 1
    · go_enter Try.func28, Try.ntmps28
      go_wp2_with fail
      go_ret
      exact ⟨rfl, World.grownBy_alloc _ _ none⟩
    · have l2 : (7 : Int) < (xs.length : Int) := by omega
      go_enter Try.func28, Try.ntmps28
      go_wp2_with fail
      go_ret
      exact ⟨rfl, World.grownBy_alloc _ _ none⟩

theorem rowok_w {n : Int} {a : Option Addr} {cap : Nat} {xs : List Int} {v : Bool} (h : rowB n xs = v) (w : World) (hx : IntsAt w a xs) :
    Calls Try.prog 28 #[.int .i64 n, .slice a xs.length cap] w fun e w' => e = .returned (.bool v) ∧ w.grownBy w' none := by rw [← h]; exact row_any n a cap xs w hx

theorem rows_any (n : Int) (a b : Option Addr) (ca cb : Nat) (x y : List Int) (w : World) (hx : IntsAt w a x) (hy : IntsAt w b y) :
    Calls Try.prog 57 #[.int .i64 n, .slice a x.length ca, .slice b y.length cb] w fun e w' => e = .returned (.bool (rowsB n x y)) ∧ w.grownBy w' none := by
  have hm := hx.1
  have hm2 := hy.1
  unfold maxLen at hm hm2
  unfold rowsB
  cases h1 : rowB n x
  · have c1 := rowok_w (cap := ca) h1 w hx
    clear hx hy h1
    go_enter Try.func57, Try.ntmps57
    go_wp2_with fail
    refine c1.mono ?_
    rintro e w1 ⟨rfl, g1⟩
    clear c1
    go_wp2_with fail
    go_ret
    exact ⟨rfl, g1⟩
  · cases h2 : rowB n y
    all_goals
      have c1 := rowok_w (cap := ca) h1 w hx
      have c2 := fun w1 (g : w.grownBy w1 none) => rowok_w (cap := cb) h2 w1 (hy.grown g)
      clear hx hy h1 h2
      by_cases hl : x.length = y.length
      · have g0 : ((x.length : Int) == (y.length : Int)) = true := by simp; omega
        have d0 : decide (x.length = y.length) = true := decide_eq_true hl
        have Hd := Lib.hid d0
        clear hl d0
        go_enter Try.func57, Try.ntmps57
        go_wp2_with fail
        refine c1.mono ?_
        rintro e w1 ⟨rfl, g1⟩
        clear c1
        go_wp2_with fail
        refine (c2 _ g1).mono ?_
        rintro e w2 ⟨rfl, g2⟩
        clear c2
        go_wp2_with fail
        go_ret
        exact ⟨by rw [Hd.out]; rfl, grownBy_trans g1 g2⟩
      · have g0 : ((x.length : Int) == (y.length : Int)) = false := by simp; omega
        have d0 : decide (x.length = y.length) = false := decide_eq_false hl
        have Hd := Lib.hid d0
        clear hl d0
        go_enter Try.func57, Try.ntmps57
        go_wp2_with fail
        refine c1.mono ?_
        rintro e w1 ⟨rfl, g1⟩
        clear c1
        go_wp2_with fail
        refine (c2 _ g1).mono ?_
        rintro e w2 ⟨rfl, g2⟩
        clear c2
        go_wp2_with fail
        go_ret
        exact ⟨by rw [Hd.out]; rfl, grownBy_trans g1 g2⟩

/-! What is folded. -/
theorem rf1_any (n s p q : Int) (B : Nat) (w : World) (h : w.cell? ⟨B, 0, none⟩ = some (.int .i64 n)) (ht : twoB n p q = true) (hs : 0 ≤ s ∧ s ≤ 1000) :
    Calls Try.prog 59 #[.int .i64 s, .int .i64 p, .int .i64 q, .pointer (some ⟨B, 0, none⟩)] w fun e w' => e = .returned (.int .i64 (s + gap p q)) ∧ w = w' := by
  have c1 := far0_any n p q w
  rw [farW_t ht] at c1
  have g1 := gap_le ht
  have g2 := gap_pos p q
  have n6 := (twoB_of ht).2.2.2.1
  clear ht
  generalize gap p q = g at *
  have hw : IntKind.i64.wrap (s + g) = s + g := IntWalk.i64_in _ (by omega)
  go_enter Try.func59, Try.ntmps59
  go_wp2_with (go_at_call 16; refine c1.mono ?_; rintro e w' ⟨rfl, rfl⟩)
  go_ret
  exact ⟨rfl, rfl⟩
theorem ra1_any (n s p q : Int) (B : Nat) (w : World) (h : w.cell? ⟨B, 0, none⟩ = some (.int .i64 n)) (ht : twoB n p q = true) :
    Calls Try.prog 60 #[.int .i64 s, .int .i64 p, .int .i64 q, .pointer (some ⟨B, 0, none⟩)] w fun e w' => e = .returned (.int .i64 (if s ≤ n - gap p q then s else n - gap p q)) ∧ w = w' := by
  have c1 := alk0_any n p q w
  rw [alkW_t ht] at c1
  clear ht
  generalize n - gap p q = g at *
  by_cases hc : s ≤ g
  · rw [if_pos hc]
    go_enter Try.func60, Try.ntmps60
    go_wp2_with (go_at_call 24; refine c1.mono ?_; rintro e w' ⟨rfl, rfl⟩)
    all_goals
      go_ret
      exact ⟨by first | rfl | (refine congrArg (fun z : Int => Ending.returned (Value.int .i64 z)) ?_; omega), rfl⟩
  · rw [if_neg hc]
    go_enter Try.func60, Try.ntmps60
    go_wp2_with (go_at_call 24; refine c1.mono ?_; rintro e w' ⟨rfl, rfl⟩)
    all_goals
      go_ret
      exact ⟨by first | rfl | (refine congrArg (fun z : Int => Ending.returned (Value.int .i64 z)) ?_; omega), rfl⟩

def FoRel (f : Nat → Int) (x : List Int) (w : World) (s i : Value) (wr : World) : Prop := ∃ k : Nat, k ≤ x.length ∧ i = .int .i64 k ∧ s = .int .i64 (f k) ∧ w = wr

set_option maxHeartbeats 2000000 in
theorem ffar_any (n : Int) (a b : Option Addr) (ca cb : Nat) (x y : List Int) (B : Nat) (w : World) (hx : IntsAt w a x) (hy : IntsAt w b y) (hr : rowsB n x y = true) (hB : w.cell? ⟨B, 0, none⟩ = some (.int .i64 n)) :
    Calls Try.prog 58 #[.slice a x.length ca, .slice b y.length cb, .int .i64 0, .func (.func 59) #[] #[.pointer (some ⟨B, 0, none⟩)]] w fun e w' => e = .returned (.int .i64 (gapS x y x.length)) ∧ w = w' := by
  have hm := hx.1
  have hm2 := hy.1
  unfold maxLen at hm hm2
  have Hx := Lib.hid hx
  have Hy := Lib.hid hy
  have Hr := Lib.hid hr
  have HB := Lib.hid hB
  have hl := (rowsB_of hr).2.2
  have hx7 := (rowB_of (rowsB_of hr).1).2.1
  have Hl := Lib.hid hl
  clear hx hy hr hB hl
  go_enter Try.func58, Try.ntmps58
  go_wp2_with fail
  go_loopw [9, 15] (fun s i wr => FoRel (gapS x y) x w s i wr) (fun _ i _ => x.length - (intOf i).toNat)
  case atStart => exact ⟨0, by omega, rfl, rfl, rfl⟩
  case round =>
    obtain ⟨k, hk, rfl, rfl, rfl⟩ := hrel
    by_cases hlt : k < x.length
    · rcases Hx.out.2 with h0 | ⟨bx, ox, rfl, hbx, hcx⟩
      · rw [h0] at hlt; simp at hlt
      rcases Hy.out.2 with h0 | ⟨by', oy, rfl, hby, hcy⟩
      · have := Hl.out; rw [h0] at this; simp only [List.length_nil] at this; omega
      have hc1 := hcx k hlt
      have hc2 := hcy k (by have := Hl.out; omega)
      have hly : k < y.length := by have := Hl.out; omega
      have i0 : (0 : Int) ≤ (k : Int) := by omega
      have i1 : (k : Int) < (x.length : Int) := by omega
      have i2 : (k : Int) < (y.length : Int) := by omega
      have c1 := rf1_any n (gapS x y k) (x.getD k 0) (y.getD k 0) B w HB.out (rows_at Hr.out hlt) ⟨gapS_pos x y k, by have := gapS_le Hr.out k hk; omega⟩
      have hS : Hid (gapS x y k + gap (x.getD k 0) (y.getD k 0) = gapS x y (k + 1)) := rfl
      generalize gap (x.getD k 0) (y.getD k 0) = G at *
      clear hcx hcy hbx hby
      generalize gapS x y k = S at *
      generalize x.getD k 0 = p at *
      generalize y.getD k 0 = q at *
      go_wp2_with (go_at_call 59; refine c1.mono ?_; rintro e w2 ⟨rfl, rfl⟩)
      go_roundw
      case rel => exact ⟨k + 1, by omega, by go_num, by rw [← hS.out], rfl⟩
      case measure => simp [intOf]; omega
    · obtain rfl : k = x.length := by omega
      go_wp2_with fail
      go_ret
      exact ⟨rfl, rfl⟩

set_option maxHeartbeats 2000000 in
theorem falk_any (n : Int) (a b : Option Addr) (ca cb : Nat) (x y : List Int) (B : Nat) (w : World) (hx : IntsAt w a x) (hy : IntsAt w b y) (hr : rowsB n x y = true) (hB : w.cell? ⟨B, 0, none⟩ = some (.int .i64 n)) :
    Calls Try.prog 58 #[.slice a x.length ca, .slice b y.length cb, .int .i64 n, .func (.func 60) #[] #[.pointer (some ⟨B, 0, none⟩)]] w fun e w' => e = .returned (.int .i64 (alkM n x y x.length)) ∧ w = w' := by
  have hm := hx.1
  have hm2 := hy.1
  unfold maxLen at hm hm2
  have Hx := Lib.hid hx
  have Hy := Lib.hid hy
  have Hr := Lib.hid hr
  have HB := Lib.hid hB
  have hl := (rowsB_of hr).2.2
  have hx7 := (rowB_of (rowsB_of hr).1).2.1
  have Hl := Lib.hid hl
  clear hx hy hr hB hl
  go_enter Try.func58, Try.ntmps58
  go_wp2_with fail
  go_loopw [9, 15] (fun s i wr => FoRel (alkM n x y) x w s i wr) (fun _ i _ => x.length - (intOf i).toNat)
  case atStart => exact ⟨0, by omega, rfl, rfl, rfl⟩
  case round =>
    obtain ⟨k, hk, rfl, rfl, rfl⟩ := hrel
    by_cases hlt : k < x.length
    · rcases Hx.out.2 with h0 | ⟨bx, ox, rfl, hbx, hcx⟩
      · rw [h0] at hlt; simp at hlt
      rcases Hy.out.2 with h0 | ⟨by', oy, rfl, hby, hcy⟩
      · have := Hl.out; rw [h0] at this; simp only [List.length_nil] at this; omega
      have hc1 := hcx k hlt
      have hc2 := hcy k (by have := Hl.out; omega)
      have hly : k < y.length := by have := Hl.out; omega
      have i0 : (0 : Int) ≤ (k : Int) := by omega
      have i1 : (k : Int) < (x.length : Int) := by omega
      have i2 : (k : Int) < (y.length : Int) := by omega
      have c1 := ra1_any n (alkM n x y k) (x.getD k 0) (y.getD k 0) B w HB.out (rows_at Hr.out hlt)
      have hS : Hid ((if alkM n x y k ≤ n - gap (x.getD k 0) (y.getD k 0) then alkM n x y k else n - gap (x.getD k 0) (y.getD k 0)) = alkM n x y (k + 1)) := rfl
      generalize n - gap (x.getD k 0) (y.getD k 0) = G at *
      clear hcx hcy hbx hby
      generalize alkM n x y k = S at *
      generalize x.getD k 0 = p at *
      generalize y.getD k 0 = q at *
      go_wp2_with (go_at_call 60; refine c1.mono ?_; rintro e w2 ⟨rfl, rfl⟩)
      go_roundw
      case rel => exact ⟨k + 1, by omega, by go_num, by rw [← hS.out], rfl⟩
      case measure => simp [intOf]; omega
    · obtain rfl : k = x.length := by omega
      go_wp2_with fail
      go_ret
      exact ⟨rfl, rfl⟩

theorem rfar_any : RfarC := fun n a b ca cb x y w hx hy => by
  have hm := hx.1
  have hm2 := hy.1
  unfold maxLen at hm hm2
  have g0 : w.grownBy (w.alloc (.cells #[.int .i64 n] 3)) none := World.grownBy_alloc _ _ none
  have hb := BlkAt.new w #[.int .i64 n] 3
  have n0 : (w.alloc (.cells #[.int .i64 n] 3)).cell? ⟨w.heap.size, 0, none⟩ = some (.int .i64 n) := hb.cell rfl
  have cr := rows_any n a b ca cb x y _ (hx.grown g0) (hy.grown g0)
  cases hr : rowsB n x y
  · rw [rfarW_f hr]
    rw [hr] at cr
    clear hr hx hy hb
    go_enter Try.func31, Try.ntmps31
    go_wp2_with fail
    refine cr.mono ?_
    rintro e w1 ⟨rfl, g1⟩
    clear cr
    go_wp2_with fail
    go_ret
    exact ⟨rfl, grownBy_trans g0 g1⟩
  · rw [rfarW_t hr]
    have c2 := fun w1 (g : (w.alloc (.cells #[.int .i64 n] 3)).grownBy w1 none) => ffar_any n a b ca cb x y w.heap.size w1 (hx.grown (grownBy_trans g0 g)) (hy.grown (grownBy_trans g0 g)) hr (cell_grown n0 g)
    have hn1 := fun w1 (g : (w.alloc (.cells #[.int .i64 n] 3)).grownBy w1 none) => cell_grown n0 g
    rw [hr] at cr
    clear hr hx hy hb
    generalize gapS x y x.length = R at *
    go_enter Try.func31, Try.ntmps31
    go_wp2_with fail
    refine cr.mono ?_
    rintro e w1 ⟨rfl, g1⟩
    have n1 := hn1 _ g1
    clear cr hn1 n0
    go_wp2_with fail
    refine (c2 _ g1).mono ?_
    rintro e w2 ⟨rfl, rfl⟩
    clear c2
    go_wp2_with fail
    go_ret
    exact ⟨rfl, grownBy_trans g0 g1⟩

theorem ralk_any : RalkC := fun n a b ca cb x y w hx hy => by
  have hm := hx.1
  have hm2 := hy.1
  unfold maxLen at hm hm2
  have g0 : w.grownBy (w.alloc (.cells #[.int .i64 n] 3)) none := World.grownBy_alloc _ _ none
  have hb := BlkAt.new w #[.int .i64 n] 3
  have n0 : (w.alloc (.cells #[.int .i64 n] 3)).cell? ⟨w.heap.size, 0, none⟩ = some (.int .i64 n) := hb.cell rfl
  have cr := rows_any n a b ca cb x y _ (hx.grown g0) (hy.grown g0)
  cases hr : rowsB n x y
  · rw [ralkW_f hr]
    rw [hr] at cr
    clear hr hx hy hb
    go_enter Try.func35, Try.ntmps35
    go_wp2_with fail
    refine cr.mono ?_
    rintro e w1 ⟨rfl, g1⟩
    clear cr
    go_wp2_with fail
    go_ret
    exact ⟨rfl, grownBy_trans g0 g1⟩
  · rw [ralkW_t hr]
    have c2 := fun w1 (g : (w.alloc (.cells #[.int .i64 n] 3)).grownBy w1 none) => falk_any n a b ca cb x y w.heap.size w1 (hx.grown (grownBy_trans g0 g)) (hy.grown (grownBy_trans g0 g)) hr (cell_grown n0 g)
    have hn1 := fun w1 (g : (w.alloc (.cells #[.int .i64 n] 3)).grownBy w1 none) => cell_grown n0 g
    rw [hr] at cr
    clear hr hx hy hb
    generalize alkM n x y x.length = R at *
    go_enter Try.func35, Try.ntmps35
    go_wp2_with fail
    refine cr.mono ?_
    rintro e w1 ⟨rfl, g1⟩
    have n1 := hn1 _ g1
    clear cr hn1 n0
    go_wp2_with fail
    refine (c2 _ g1).mono ?_
    rintro e w2 ⟨rfl, rfl⟩
    clear c2
    go_wp2_with fail
    go_ret
    exact ⟨rfl, grownBy_trans g0 g1⟩

end Go.Proofs.Ytbalikemmilnaaa
