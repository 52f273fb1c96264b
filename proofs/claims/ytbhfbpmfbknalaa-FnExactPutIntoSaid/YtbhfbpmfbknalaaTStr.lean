/-
  impl's StrongOf.
-/
import Derived.Test.YtbhfbpmfbknalaaTPut
namespace Go.Proofs.Ytbhfbpmfbknalaa
open Go.RowKit Go.Maps

/-- The table of false and true alone: what it tells for two values that are not unknown. -/
def plD (m d : Nat) : Int := ((m / 2 ^ d % 2 * 2 : Nat) : Int)
def plZ (m : Nat) (p q : Int) : Int := plD m ((if p = 2 then 2 else 0) + (if q = 2 then 1 else 0))
def plF (m k : Nat) : Int := plZ m ((k / 3 : Nat) : Int) ((k % 3 : Nat) : Int)
theorem dig_tab : ((List.range 16).all fun m => wrap64 (bits .and .i64 (m : Int) 1 * 2) == plD m 0 && wrap64 (bits .and .i64 ((m : Int) / 2) 1 * 2) == plD m 1 && wrap64 (bits .and .i64 ((m : Int) / 4) 1 * 2) == plD m 2 && wrap64 (bits .and .i64 ((m : Int) / 8) 1 * 2) == plD m 3) = true := by decide +kernel
theorem dig_at {m : Nat} (hm : m < 16) : wrap64 (bits .and .i64 (m : Int) 1 * 2) = plD m 0 ∧ wrap64 (bits .and .i64 ((m : Int) / 2) 1 * 2) = plD m 1 ∧ wrap64 (bits .and .i64 ((m : Int) / 4) 1 * 2) = plD m 2 ∧ wrap64 (bits .and .i64 ((m : Int) / 8) 1 * 2) = plD m 3 := by
  have h := dig_tab
  rw [List.all_eq_true] at h
  have h := h m (List.mem_range.2 hm)
  simp only [Bool.and_eq_true, beq_iff_eq] at h
  exact ⟨h.1.1.1, h.1.1.2, h.1.2, h.2⟩

set_option maxHeartbeats 2000000 in
theorem st1_any (m : Nat) (hm : m < 16) (p q : Int) (hp : p = 0 ∨ p = 1 ∨ p = 2) (hq : q = 0 ∨ q = 1 ∨ q = 2) (B : Nat) (w : World) (h : w.cell? ⟨B, 0, none⟩ = some (.int .i64 m)) :
    Calls Try.prog 60 #[.int .i64 p, .int .i64 q, .pointer (some ⟨B, 0, none⟩)] w fun e w' => e = .returned (.int .i64 (plZ m p q)) ∧ w = w' := by
  have E := Lib.hid (dig_at hm)
  have hml : (m : Int) ≤ 15 := by omega
  clear hm
  rcases hp with rfl | rfl | rfl <;> rcases hq with rfl | rfl | rfl
  · go_enter Try.func60, Try.ntmps60
    go_wp2_with fail
    go_ret
    exact ⟨congrArg (fun z : Int => Ending.returned (Value.int .i64 z)) E.out.1, rfl⟩
  · go_enter Try.func60, Try.ntmps60
    go_wp2_with fail
    go_ret
    exact ⟨congrArg (fun z : Int => Ending.returned (Value.int .i64 z)) E.out.1, rfl⟩
  · go_enter Try.func60, Try.ntmps60
    go_wp2_with fail
    go_ret
    exact ⟨congrArg (fun z : Int => Ending.returned (Value.int .i64 z)) E.out.2.1, rfl⟩
  · go_enter Try.func60, Try.ntmps60
    go_wp2_with fail
    go_ret
    exact ⟨congrArg (fun z : Int => Ending.returned (Value.int .i64 z)) E.out.1, rfl⟩
  · go_enter Try.func60, Try.ntmps60
    go_wp2_with fail
    go_ret
    exact ⟨congrArg (fun z : Int => Ending.returned (Value.int .i64 z)) E.out.1, rfl⟩
  · go_enter Try.func60, Try.ntmps60
    go_wp2_with fail
    go_ret
    exact ⟨congrArg (fun z : Int => Ending.returned (Value.int .i64 z)) E.out.2.1, rfl⟩
  · go_enter Try.func60, Try.ntmps60
    go_wp2_with fail
    go_ret
    exact ⟨congrArg (fun z : Int => Ending.returned (Value.int .i64 z)) E.out.2.2.1, rfl⟩
  · go_enter Try.func60, Try.ntmps60
    go_wp2_with fail
    go_ret
    exact ⟨congrArg (fun z : Int => Ending.returned (Value.int .i64 z)) E.out.2.2.1, rfl⟩
  · go_enter Try.func60, Try.ntmps60
    go_wp2_with fail
    go_ret
    exact ⟨congrArg (fun z : Int => Ending.returned (Value.int .i64 z)) E.out.2.2.2, rfl⟩

theorem str_tab : ((List.range 16).all fun m => (List.range 9).all fun k => (tdF (rdL (plF m) [0, 2] 4) k == strK m k) && decide (0 ≤ plF m k ∧ plF m k ≤ 2)) = true := by decide +kernel
theorem str_at {m k : Nat} (hm : m < 16) (hk : k < 9) : tdF (rdL (plF m) [0, 2] 4) k = strK m k ∧ 0 ≤ plF m k ∧ plF m k ≤ 2 := by
  have h := str_tab
  rw [List.all_eq_true] at h
  have h := h m (List.mem_range.2 hm)
  rw [List.all_eq_true] at h
  have h := h k (List.mem_range.2 hk)
  rw [Bool.and_eq_true, beq_iff_eq, decide_eq_true_eq] at h
  exact h
theorem str_lT {m : Nat} (hm : m < 16) : lT (tdF (rdL (plF m) [0, 2] 4)) = strL m := by
  unfold lT strL
  exact List.map_congr_left fun k hk => (str_at hm (List.mem_range.1 hk)).1
/-- What StrongOf answers. -/
def strR (n : Int) : List Int := if 0 ≤ n ∧ n ≤ 15 then strL n.toNat else []

theorem two_cells (w : World) : IntsAt (w.alloc (.cells #[.int .i64 0, .int .i64 2] 3)) (some ⟨w.heap.size, 0, none⟩) [0, 2] :=
  ⟨by unfold maxLen; simp, .inr ⟨w.heap.size, 0, rfl, by simp, fun i hi => by
    match i, hi with
    | 0, _ => simp
    | 1, _ => simp⟩⟩
theorem three_cells (w : World) : IntsAt (w.alloc (.cells #[.int .i64 0, .int .i64 1, .int .i64 2] 3)) (some ⟨w.heap.size, 0, none⟩) [0, 1, 2] :=
  ⟨by unfold maxLen; simp, .inr ⟨w.heap.size, 0, rfl, by simp, fun i hi => by
    match i, hi with
    | 0, _ => simp
    | 1, _ => simp
    | 2, _ => simp⟩⟩

set_option maxHeartbeats 4000000 in
theorem istr_no (n : Int) (h : ¬ (0 ≤ n ∧ n ≤ 15)) (w : World) :
    Calls Try.prog 34 #[.int .i64 n] w (TabPost (strR n) w) := by
  have hz := Lib.hid (show strR n = [] from if_neg h)
  have g1 : w.grownBy (w.alloc (.cells #[.int .i64 n] 3)) none := World.grownBy_alloc _ _ none
  have s1 : (w.alloc (.cells #[.int .i64 n] 3)).heap.size = w.heap.size + 1 := by simp
  have t1 := T1.new (w.alloc (.cells #[.int .i64 n] 3)) (.slice none 0 0)
  have g2 := grownBy_trans g1 (World.grownBy_alloc (w.alloc (.cells #[.int .i64 n] 3)) (.cells #[.slice none 0 0] 25) none)
  rw [s1] at t1
  have n1 := cell_new1 w (.int .i64 n) 3
  have n2 := (World.grownBy_alloc (w.alloc (.cells #[.int .i64 n] 3)) (.cells #[.slice none 0 0] 25) none).cell n1 (by simp)
  have c1 := t1.cell
  have d1 := t1.free
  have F := Lib.hid (And.intro (OwnI.nil ((w.alloc (.cells #[.int .i64 n] 3)).alloc (.cells #[.slice none 0 0] 25)) w.heap.size) g2)
  have R := Lib.hid t1
  clear g1 s1 t1 g2 n1
  by_cases h0 : n < 0
  · clear h
    go_enter Try.func34, Try.ntmps34
    go_wp2_with fail
    exact bodyPost_ret (resT1 rfl _ rfl R.out) rfl (by rw [hz.out]; exact ⟨none, 0, rfl, F.out⟩)
  · have h15 : 15 < n := by omega
    clear h
    go_enter Try.func34, Try.ntmps34
    go_wp2_with fail
    exact bodyPost_ret (resT1 rfl _ rfl R.out) rfl (by rw [hz.out]; exact ⟨none, 0, rfl, F.out⟩)

set_option maxHeartbeats 4000000 in
theorem istr_yes (m : Nat) (hm : m < 16) (w : World) :
    Calls Try.prog 34 #[.int .i64 m] w (TabPost (strL m) w) := by
  have hz := Lib.hid (str_lT hm)
  have g1 : w.grownBy (w.alloc (.cells #[.int .i64 m] 3)) none := World.grownBy_alloc _ _ none
  have s1 : (w.alloc (.cells #[.int .i64 m] 3)).heap.size = w.heap.size + 1 := by simp
  have t1 := T1.new (w.alloc (.cells #[.int .i64 m] 3)) (.slice none 0 0)
  have ga := World.grownBy_alloc (w.alloc (.cells #[.int .i64 m] 3)) (.cells #[.slice none 0 0] 25) none
  have g2 := grownBy_trans g1 ga
  rw [s1] at t1
  have n2 := ga.cell (cell_new1 w (.int .i64 m) 3) (by simp)
  have cn := nine_any 60 #[.pointer (some ⟨w.heap.size, 0, none⟩)] (plF m) _ (fun args w => by kernel_rfl) (fun w2 g k hk =>
    (st1_any m hm ((k / 3 : Nat) : Int) ((k % 3 : Nat) : Int) (by omega) (by omega) w.heap.size w2 (g.cell n2 (by simp))).mono fun _ _ q => ⟨q.1, by rw [q.2]; exact grownBy_refl _ _⟩)
  have G2 := Lib.hid g2
  have TT := Lib.hid t1
  have HOK : Hid (ok3 (plF m)) := fun k hk => (str_at hm hk).2
  have hm1 : (m : Int) ≤ 15 := by omega
  have hm0 : 0 ≤ (m : Int) := by omega
  clear g1 s1 t1 ga g2 hm
  go_enter Try.func34, Try.ntmps34
  go_wp2_with fail
  refine cn.mono ?_
  rintro e w3 ⟨rfl, g3⟩
  have gb : w3.grownBy (w3.alloc (.cells (c9 (plF m)) 59)) none := World.grownBy_alloc _ _ none
  have gc : (w3.alloc (.cells (c9 (plF m)) 59)).grownBy ((w3.alloc (.cells (c9 (plF m)) 59)).alloc (.cells #[.int .i64 0, .int .i64 2] 3)) none := World.grownBy_alloc _ _ none
  obtain ⟨a0, a1, a2, a3, a4, a5, a6, a7, a8⟩ := (Blk9.new w3 (plF m)).cells
  have hI := two_cells (w3.alloc (.cells (c9 (plF m)) 59))
  rw [show (w3.alloc (.cells (c9 (plF m)) 59)).heap.size = w3.heap.size + 1 by simp] at hI
  have cr := readings_any (plF m) HOK.out [0, 2] (fun k hk => by
    match k, hk with
    | 0, _ => exact ⟨by decide, by decide⟩
    | 1, _ => exact ⟨by decide, by decide⟩) (by decide) _ 2 _ hI
  have G4 := Lib.hid (grownBy_trans g3 (grownBy_trans gb gc))
  clear cn n2 g3 gb gc hI
  unfold a9 at *
  unfold c9 at *
  go_wp2_with fail
  clear a0 a1 a2 a3 a4 a5 a6 a7 a8
  refine cr.mono ?_
  rintro e w5 ⟨b, rfl, ⟨D, ho5, K5⟩, g5⟩
  have ct : Calls Try.prog 56 #[.map (some b)] w5 (A9Post (tdF (rdL (plF m) [0, 2] 4)) w5) := told_any _ D b _ w5 K5 ho5
  clear ho5 K5 cr
  have ctab := fun w => table_any (tdF (rdL (plF m) [0, 2] 4)) w
  rw [hz.out] at ctab
  generalize tdF (rdL (plF m) [0, 2] 4) = F0 at *
  go_wp2_with fail
  refine ct.mono ?_
  rintro e w6 ⟨rfl, g6⟩
  go_wp2_with fail
  refine (ctab w6).mono ?_
  rintro e w7 ⟨a, cap, rfl, hO, g7⟩
  have g36 := grownBy_trans G4.out (grownBy_trans g5 g6)
  have T7 := TT.out.grown (grownBy_trans g36 g7)
  have n7 := T7.cell
  have d7 := T7.free
  have hlt := Nat.lt_of_lt_of_le TT.out.lt g36.size
  have F := Lib.hid (fin_tab (.slice a (strL m).length cap) hO (grownBy_trans (grownBy_trans G2.out g36) g7) hlt (by omega))
  have R := Lib.hid (T7.set (v := .slice a (strL m).length cap))
  clear T7 hO g36 hlt g5 g6 g7 G4 ct ctab hz
  generalize strL m = zs at *
  go_wp2_with fail
  exact bodyPost_ret (resT1 rfl _ rfl R.out) rfl ⟨a, cap, rfl, F.out⟩

theorem istr_any (n : Int) (w : World) : Calls Try.prog 34 #[.int .i64 n] w (TabPost (strR n) w) := by
  by_cases h : 0 ≤ n ∧ n ≤ 15
  · obtain ⟨m, rfl⟩ := Int.eq_ofNat_of_zero_le h.1
    have e : strR (m : Int) = strL m := if_pos h
    rw [e]
    exact istr_yes m (by omega) w
  · exact istr_no n h w

end Go.Proofs.Ytbhfbpmfbknalaa
