/-
  The model's ValueAt: l4Value by induction on the tree whose text it is given. No condition.
-/
import Derived.Test.YtlnffpofbfigaaaGreatDoorFSpec
import Derived.WalkSpells
namespace Go.Proofs.YtlnffpofbfigaaaGreatDoor
open Go.RowKit

theorem idx0_run {s : ByteArray} {c : UInt8} {r : List UInt8} (h : bl s = c :: r) (w : World) :
    (Instr.index 9 (.string s) (.int .i64 0)).run Tryz.prog w = .ok (.int .u8 (c.toNat : Int)) w := idx_run (p := 0) h w

theorem bl_extract (s : ByteArray) (a b : Nat) : bl (s.extract a b) = ((bl s).drop a).take (b - a) := Lib.extract_data s a b

/-- The text of a pair: its parts, and where its sign stands. -/
theorem bin_parts {s : ByteArray} {g : Sg} {x y : Tr} (h : bl s = (Tr.bin g x y).txt) :
    ∃ m : Nat, m = 1 + x.txt.length ∧ s.size = m + 1 + y.txt.length + 1 ∧ (bl s).drop 1 = x.txt ++ (g.byte :: (y.txt ++ [41])) ∧ (bl s).drop m = g.byte :: (y.txt ++ [41]) ∧
      bl (s.extract 1 m) = x.txt ∧ bl (s.extract (m + 1) (s.size - 1)) = y.txt ∧ m + (g.byte :: (y.txt ++ [41])).length = s.size ∧ 1 ≤ x.txt.length ∧ 1 ≤ y.txt.length := by
  have hx := txt_pos x
  have hy := txt_pos y
  have hz : s.size = 1 + x.txt.length + 1 + y.txt.length + 1 := by rw [bl_size, h, bin_len]; omega
  have h1 : (bl s).drop 1 = x.txt ++ (g.byte :: (y.txt ++ [41])) := by rw [h]; rfl
  have hm : (bl s).drop (1 + x.txt.length) = g.byte :: (y.txt ++ [41]) := by rw [← List.drop_drop, h1]; simp
  refine ⟨1 + x.txt.length, rfl, hz, h1, hm, ?_, ?_, ?_, hx, hy⟩
  · rw [bl_extract, h1, Nat.add_sub_cancel_left]; simp
  · rw [bl_extract, drop_tail hm, hz]
    have : 1 + x.txt.length + 1 + y.txt.length + 1 - 1 - (1 + x.txt.length + 1) = y.txt.length := by omega
    rw [this]; simp
  · simp; omega

theorem bin_end {s : ByteArray} {g : Sg} {x y : Tr} (h : bl s = (Tr.bin g x y).txt) (hs : s.size ≤ 1048576) {m : Nat} (hm : m = 1 + x.txt.length) (w : World) :
    Calls Tryz.prog 112 #[.string s, .int .i64 1] w fun e w' => e = .returned (.int .i64 (m : Int)) ∧ w = w' := by
  obtain ⟨m', hm', hz, h1, h2, _, _, h5, _⟩ := bin_parts h
  obtain rfl : m' = m := by omega
  exact (ends_at s.size).yes (p := 1) (i := 1) hs rfl (by omega) (t := x) (r := g.byte :: (y.txt ++ [41])) (by rw [h1]; exact prs_full x _ _ (by omega)) h5

def SvOk (n a b c : Int) (t : Tr) : Prop := ∀ (s : ByteArray) (w : World), bl s = t.txt → s.size ≤ 1048576 →
  Calls Tryz.prog 111 #[.int .i64 n, .string s, .int .i64 a, .int .i64 b, .int .i64 c] w fun e w' => e = .returned (.int .i64 (t.val n a b c)) ∧ w = w'

theorem sv_lt (n a b c : Int) (k : Lr) : SvOk n a b c (.lt k) := by
  intro s w h hs
  have hi := fun w => idx0_run (c := k.byte) (r := []) h w
  have hz : 1 ≤ s.size := by rw [bl_size, h]; exact txt_pos _
  clear h
  cases k
  all_goals
    unfold Lr.byte at hi
    go_enter Tryz.func111, Tryz.ntmps111
    go_wp2_with fail
    go_ret
    exact ⟨rfl, rfl⟩

theorem sv_tru (n a b c : Int) (k : Bool) : SvOk n a b c (.tru k) := by
  intro s w h hs
  have hi := fun w => idx0_run (c := if k then 49 else 48) (r := []) h w
  have hz : 1 ≤ s.size := by rw [bl_size, h]; exact txt_pos _
  clear h
  cases k
  all_goals
    simp only [if_true, Bool.false_eq_true, if_false] at hi
    go_enter Tryz.func111, Tryz.ntmps111
    go_wp2_with fail
    go_ret
    exact ⟨rfl, rfl⟩

theorem sv_neg {n a b c : Int} {x : Tr} (hx : vokB n (x.val n a b c) = true) (ih : SvOk n a b c x) : SvOk n a b c (.neg x) := by
  intro s w h hs
  have hi := fun w => idx0_run (c := 33) (r := x.txt) h w
  have hz : 1 ≤ s.size := by rw [bl_size, h]; exact txt_pos _
  have ht := bl_tail (c := 33) (l := x.txt) h
  have c1 := ih (s.extract 1 s.size) w ht (by simp; omega)
  have hv := Lib.hid (notW_t hx)
  have k := vokB_of hx
  have e : Hid ((Tr.neg x).val n a b c = notW n (x.val n a b c)) := Lib.hid rfl
  generalize x.val n a b c = u at *
  generalize (Tr.neg x).val n a b c = z at *
  clear h ht ih hx
  go_enter Tryz.func111, Tryz.ntmps111
  go_wp2_with fail
  refine c1.mono ?_
  rintro e w1 ⟨rfl, rfl⟩
  clear c1
  go_wp2_with fail
  go_ret
  exact ⟨by rw [e.out, hv.out]; rfl, rfl⟩

theorem sv_fol {n a b c : Int} {x y : Tr} (hx : vokB n (x.val n a b c) = true) (hy : vokB n (y.val n a b c) = true) (ihx : SvOk n a b c x) (ihy : SvOk n a b c y) : SvOk n a b c (.bin .fol x y) := by
  intro s w h hs
  obtain ⟨m, hm, hz, _, hd, ex, ey, _, px, py⟩ := bin_parts h
  have hi := fun w => idx0_run (c := 40) h w
  have hj := fun w => idx_run hd w
  have c0 := bin_end h hs hm w
  have c1 := ihx (s.extract 1 m) w ex (by simp; omega)
  have c2 := ihy (s.extract (m + 1) (s.size - 1)) w ey (by simp; omega)
  have k1 := vokB_of hx
  have k2 := vokB_of hy
  have ht := twoB_mk hx hy
  have e : Hid ((Tr.bin .fol x y).val n a b c = folW n (x.val n a b c) (y.val n a b c)) := Lib.hid rfl
  have q1 : 1 ≤ m := by omega
  have q2 : m + 1 ≤ s.size - 1 := by omega
  have q3 : m < s.size := by omega
  unfold Sg.byte at hj
  generalize x.val n a b c = u at *
  generalize y.val n a b c = v at *
  generalize (Tr.bin .fol x y).val n a b c = z at *
  clear h ex ey ihx ihy hx hy hd hm hz px py
  by_cases hc : n - u + v ≤ n
  · have hv := Lib.hid (folW_t ht hc)
    clear ht
    go_enter Tryz.func111, Tryz.ntmps111
    go_wp2_with fail
    refine c0.mono ?_
    rintro e w1 ⟨rfl, rfl⟩
    clear c0
    go_wp2_with fail
    refine c1.mono ?_
    rintro e w1 ⟨rfl, rfl⟩
    clear c1
    go_wp2_with fail
    refine c2.mono ?_
    rintro e w1 ⟨rfl, rfl⟩
    clear c2
    go_wp2_with fail
    all_goals
      go_ret
      exact ⟨by rw [e.out, hv.out]; first | rfl | (refine congrArg (fun z : Int => Ending.returned (Value.int .i64 z)) ?_; omega), rfl⟩
  · have hv := Lib.hid (folW_e ht hc)
    clear ht
    go_enter Tryz.func111, Tryz.ntmps111
    go_wp2_with fail
    refine c0.mono ?_
    rintro e w1 ⟨rfl, rfl⟩
    clear c0
    go_wp2_with fail
    refine c1.mono ?_
    rintro e w1 ⟨rfl, rfl⟩
    clear c1
    go_wp2_with fail
    refine c2.mono ?_
    rintro e w1 ⟨rfl, rfl⟩
    clear c2
    go_wp2_with fail
    all_goals
      go_ret
      exact ⟨by rw [e.out, hv.out]; first | rfl | (refine congrArg (fun z : Int => Ending.returned (Value.int .i64 z)) ?_; omega), rfl⟩

theorem sv_plus {n a b c : Int} {x y : Tr} (hx : vokB n (x.val n a b c) = true) (hy : vokB n (y.val n a b c) = true) (ihx : SvOk n a b c x) (ihy : SvOk n a b c y) : SvOk n a b c (.bin .plus x y) := by
  intro s w h hs
  obtain ⟨m, hm, hz, _, hd, ex, ey, _, px, py⟩ := bin_parts h
  have hi := fun w => idx0_run (c := 40) h w
  have hj := fun w => idx_run hd w
  have c0 := bin_end h hs hm w
  have c1 := ihx (s.extract 1 m) w ex (by simp; omega)
  have c2 := ihy (s.extract (m + 1) (s.size - 1)) w ey (by simp; omega)
  have k1 := vokB_of hx
  have k2 := vokB_of hy
  have ht := twoB_mk hx hy
  have e : Hid ((Tr.bin .plus x y).val n a b c = plusW n (x.val n a b c) (y.val n a b c)) := Lib.hid rfl
  have q1 : 1 ≤ m := by omega
  have q2 : m + 1 ≤ s.size - 1 := by omega
  have q3 : m < s.size := by omega
  unfold Sg.byte at hj
  generalize x.val n a b c = u at *
  generalize y.val n a b c = v at *
  generalize (Tr.bin .plus x y).val n a b c = z at *
  clear h ex ey ihx ihy hx hy hd hm hz px py
  by_cases hc : u + v ≤ n
  · have hv := Lib.hid (plusW_t ht hc)
    clear ht
    go_enter Tryz.func111, Tryz.ntmps111
    go_wp2_with fail
    refine c0.mono ?_
    rintro e w1 ⟨rfl, rfl⟩
    clear c0
    go_wp2_with fail
    refine c1.mono ?_
    rintro e w1 ⟨rfl, rfl⟩
    clear c1
    go_wp2_with fail
    refine c2.mono ?_
    rintro e w1 ⟨rfl, rfl⟩
    clear c2
    go_wp2_with fail
    all_goals
      go_ret
      exact ⟨by rw [e.out, hv.out]; first | rfl | (refine congrArg (fun z : Int => Ending.returned (Value.int .i64 z)) ?_; omega), rfl⟩
  · have hv := Lib.hid (plusW_e ht hc)
    clear ht
    go_enter Tryz.func111, Tryz.ntmps111
    go_wp2_with fail
    refine c0.mono ?_
    rintro e w1 ⟨rfl, rfl⟩
    clear c0
    go_wp2_with fail
    refine c1.mono ?_
    rintro e w1 ⟨rfl, rfl⟩
    clear c1
    go_wp2_with fail
    refine c2.mono ?_
    rintro e w1 ⟨rfl, rfl⟩
    clear c2
    go_wp2_with fail
    all_goals
      go_ret
      exact ⟨by rw [e.out, hv.out]; first | rfl | (refine congrArg (fun z : Int => Ending.returned (Value.int .i64 z)) ?_; omega), rfl⟩

theorem sv_times {n a b c : Int} {x y : Tr} (hx : vokB n (x.val n a b c) = true) (hy : vokB n (y.val n a b c) = true) (ihx : SvOk n a b c x) (ihy : SvOk n a b c y) : SvOk n a b c (.bin .times x y) := by
  intro s w h hs
  obtain ⟨m, hm, hz, _, hd, ex, ey, _, px, py⟩ := bin_parts h
  have hi := fun w => idx0_run (c := 40) h w
  have hj := fun w => idx_run hd w
  have c0 := bin_end h hs hm w
  have c1 := ihx (s.extract 1 m) w ex (by simp; omega)
  have c2 := ihy (s.extract (m + 1) (s.size - 1)) w ey (by simp; omega)
  have k1 := vokB_of hx
  have k2 := vokB_of hy
  have ht := twoB_mk hx hy
  have e : Hid ((Tr.bin .times x y).val n a b c = timesW n (x.val n a b c) (y.val n a b c)) := Lib.hid rfl
  have q1 : 1 ≤ m := by omega
  have q2 : m + 1 ≤ s.size - 1 := by omega
  have q3 : m < s.size := by omega
  unfold Sg.byte at hj
  generalize x.val n a b c = u at *
  generalize y.val n a b c = v at *
  generalize (Tr.bin .times x y).val n a b c = z at *
  clear h ex ey ihx ihy hx hy hd hm hz px py
  by_cases hc : 0 ≤ u + v - n
  · have hv := Lib.hid (timesW_t ht hc)
    clear ht
    go_enter Tryz.func111, Tryz.ntmps111
    go_wp2_with fail
    refine c0.mono ?_
    rintro e w1 ⟨rfl, rfl⟩
    clear c0
    go_wp2_with fail
    refine c1.mono ?_
    rintro e w1 ⟨rfl, rfl⟩
    clear c1
    go_wp2_with fail
    refine c2.mono ?_
    rintro e w1 ⟨rfl, rfl⟩
    clear c2
    go_wp2_with fail
    all_goals
      go_ret
      exact ⟨by rw [e.out, hv.out]; first | rfl | (refine congrArg (fun z : Int => Ending.returned (Value.int .i64 z)) ?_; omega), rfl⟩
  · have hv := Lib.hid (timesW_e ht hc)
    clear ht
    go_enter Tryz.func111, Tryz.ntmps111
    go_wp2_with fail
    refine c0.mono ?_
    rintro e w1 ⟨rfl, rfl⟩
    clear c0
    go_wp2_with fail
    refine c1.mono ?_
    rintro e w1 ⟨rfl, rfl⟩
    clear c1
    go_wp2_with fail
    refine c2.mono ?_
    rintro e w1 ⟨rfl, rfl⟩
    clear c2
    go_wp2_with fail
    all_goals
      go_ret
      exact ⟨by rw [e.out, hv.out]; first | rfl | (refine congrArg (fun z : Int => Ending.returned (Value.int .i64 z)) ?_; omega), rfl⟩

theorem sv_less {n a b c : Int} {x y : Tr} (hx : vokB n (x.val n a b c) = true) (hy : vokB n (y.val n a b c) = true) (ihx : SvOk n a b c x) (ihy : SvOk n a b c y) : SvOk n a b c (.bin .less x y) := by
  intro s w h hs
  obtain ⟨m, hm, hz, _, hd, ex, ey, _, px, py⟩ := bin_parts h
  have hi := fun w => idx0_run (c := 40) h w
  have hj := fun w => idx_run hd w
  have c0 := bin_end h hs hm w
  have c1 := ihx (s.extract 1 m) w ex (by simp; omega)
  have c2 := ihy (s.extract (m + 1) (s.size - 1)) w ey (by simp; omega)
  have k1 := vokB_of hx
  have k2 := vokB_of hy
  have ht := twoB_mk hx hy
  have e : Hid ((Tr.bin .less x y).val n a b c = lessW n (x.val n a b c) (y.val n a b c)) := Lib.hid rfl
  have q1 : 1 ≤ m := by omega
  have q2 : m + 1 ≤ s.size - 1 := by omega
  have q3 : m < s.size := by omega
  unfold Sg.byte at hj
  generalize x.val n a b c = u at *
  generalize y.val n a b c = v at *
  generalize (Tr.bin .less x y).val n a b c = z at *
  clear h ex ey ihx ihy hx hy hd hm hz px py
  by_cases hc : u ≤ v
  · have hv := Lib.hid (lessW_t ht hc)
    clear ht
    go_enter Tryz.func111, Tryz.ntmps111
    go_wp2_with fail
    refine c0.mono ?_
    rintro e w1 ⟨rfl, rfl⟩
    clear c0
    go_wp2_with fail
    refine c1.mono ?_
    rintro e w1 ⟨rfl, rfl⟩
    clear c1
    go_wp2_with fail
    refine c2.mono ?_
    rintro e w1 ⟨rfl, rfl⟩
    clear c2
    go_wp2_with fail
    all_goals
      go_ret
      exact ⟨by rw [e.out, hv.out]; first | rfl | (refine congrArg (fun z : Int => Ending.returned (Value.int .i64 z)) ?_; omega), rfl⟩
  · have hv := Lib.hid (lessW_e ht hc)
    clear ht
    go_enter Tryz.func111, Tryz.ntmps111
    go_wp2_with fail
    refine c0.mono ?_
    rintro e w1 ⟨rfl, rfl⟩
    clear c0
    go_wp2_with fail
    refine c1.mono ?_
    rintro e w1 ⟨rfl, rfl⟩
    clear c1
    go_wp2_with fail
    refine c2.mono ?_
    rintro e w1 ⟨rfl, rfl⟩
    clear c2
    go_wp2_with fail
    all_goals
      go_ret
      exact ⟨by rw [e.out, hv.out]; first | rfl | (refine congrArg (fun z : Int => Ending.returned (Value.int .i64 z)) ?_; omega), rfl⟩

theorem sv_great {n a b c : Int} {x y : Tr} (hx : vokB n (x.val n a b c) = true) (hy : vokB n (y.val n a b c) = true) (ihx : SvOk n a b c x) (ihy : SvOk n a b c y) : SvOk n a b c (.bin .great x y) := by
  intro s w h hs
  obtain ⟨m, hm, hz, _, hd, ex, ey, _, px, py⟩ := bin_parts h
  have hi := fun w => idx0_run (c := 40) h w
  have hj := fun w => idx_run hd w
  have c0 := bin_end h hs hm w
  have c1 := ihx (s.extract 1 m) w ex (by simp; omega)
  have c2 := ihy (s.extract (m + 1) (s.size - 1)) w ey (by simp; omega)
  have k1 := vokB_of hx
  have k2 := vokB_of hy
  have ht := twoB_mk hx hy
  have e : Hid ((Tr.bin .great x y).val n a b c = greatW n (x.val n a b c) (y.val n a b c)) := Lib.hid rfl
  have q1 : 1 ≤ m := by omega
  have q2 : m + 1 ≤ s.size - 1 := by omega
  have q3 : m < s.size := by omega
  unfold Sg.byte at hj
  generalize x.val n a b c = u at *
  generalize y.val n a b c = v at *
  generalize (Tr.bin .great x y).val n a b c = z at *
  clear h ex ey ihx ihy hx hy hd hm hz px py
  by_cases hc : u ≤ v
  · have hv := Lib.hid (greatW_t ht hc)
    clear ht
    go_enter Tryz.func111, Tryz.ntmps111
    go_wp2_with fail
    refine c0.mono ?_
    rintro e w1 ⟨rfl, rfl⟩
    clear c0
    go_wp2_with fail
    refine c1.mono ?_
    rintro e w1 ⟨rfl, rfl⟩
    clear c1
    go_wp2_with fail
    refine c2.mono ?_
    rintro e w1 ⟨rfl, rfl⟩
    clear c2
    go_wp2_with fail
    all_goals
      go_ret
      exact ⟨by rw [e.out, hv.out]; first | rfl | (refine congrArg (fun z : Int => Ending.returned (Value.int .i64 z)) ?_; omega), rfl⟩
  · have hv := Lib.hid (greatW_e ht hc)
    clear ht
    go_enter Tryz.func111, Tryz.ntmps111
    go_wp2_with fail
    refine c0.mono ?_
    rintro e w1 ⟨rfl, rfl⟩
    clear c0
    go_wp2_with fail
    refine c1.mono ?_
    rintro e w1 ⟨rfl, rfl⟩
    clear c1
    go_wp2_with fail
    refine c2.mono ?_
    rintro e w1 ⟨rfl, rfl⟩
    clear c2
    go_wp2_with fail
    all_goals
      go_ret
      exact ⟨by rw [e.out, hv.out]; first | rfl | (refine congrArg (fun z : Int => Ending.returned (Value.int .i64 z)) ?_; omega), rfl⟩

theorem sv_all {n a b c : Int} (h : thrB n a b c = true) : ∀ t : Tr, SvOk n a b c t := by
  intro t
  induction t with
  | lt k => exact sv_lt n a b c k
  | tru k => exact sv_tru n a b c k
  | neg x ih => exact sv_neg (val_ok h x) ih
  | bin g x y ihx ihy =>
    cases g
    · exact sv_fol (val_ok h x) (val_ok h y) ihx ihy
    · exact sv_plus (val_ok h x) (val_ok h y) ihx ihy
    · exact sv_times (val_ok h x) (val_ok h y) ihx ihy
    · exact sv_less (val_ok h x) (val_ok h y) ihx ihy
    · exact sv_great (val_ok h x) (val_ok h y) ihx ihy

theorem svalue_any (n : Int) (s : ByteArray) (a b c : Int) (w : World) :
    Calls Tryz.prog 77 #[.int .i64 n, .string s, .int .i64 a, .int .i64 b, .int .i64 c] w fun e w' => e = .returned (.int .i64 (valI n (bl s) a b c)) ∧ w = w' := by
  have cf := sform_any s w
  have ct := two_any n a b w
  have cv := svok_any n c w
  cases h : fOf (bl s) with
  | none =>
    rw [isF_f h] at cf
    rw [valI_n h]
    clear h ct cv
    go_enter Tryz.func77, Tryz.ntmps77
    go_wp2_with fail
    refine cf.mono ?_
    rintro e w1 ⟨rfl, rfl⟩
    go_wp2_with fail
    go_ret
    exact ⟨rfl, rfl⟩
  | some t =>
    rw [isF_t h] at cf
    cases h3 : thrB n a b c
    · rw [valI_f h3]
      rcases thrB_no h3 with h1 | ⟨h1, h2⟩ | ⟨h1, h2, h3⟩
      · have e2 : twoB n a b = false := by unfold twoB; rw [h1]; rfl
        rw [e2] at ct
        clear h h3 cv h1 e2
        go_enter Tryz.func77, Tryz.ntmps77
        go_wp2_with fail
        refine cf.mono ?_
        rintro e w1 ⟨rfl, rfl⟩
        go_wp2_with fail
        refine ct.mono ?_
        rintro e w1 ⟨rfl, rfl⟩
        go_wp2_with fail
        go_ret
        exact ⟨rfl, rfl⟩
      · have e2 : twoB n a b = false := by unfold twoB; rw [h1, h2]; rfl
        rw [e2] at ct
        clear h h3 cv h1 h2 e2
        go_enter Tryz.func77, Tryz.ntmps77
        go_wp2_with fail
        refine cf.mono ?_
        rintro e w1 ⟨rfl, rfl⟩
        go_wp2_with fail
        refine ct.mono ?_
        rintro e w1 ⟨rfl, rfl⟩
        go_wp2_with fail
        go_ret
        exact ⟨rfl, rfl⟩
      · rw [twoB_mk h1 h2] at ct
        rw [h3] at cv
        clear h h3 h1 h2
        go_enter Tryz.func77, Tryz.ntmps77
        go_wp2_with fail
        refine cf.mono ?_
        rintro e w1 ⟨rfl, rfl⟩
        go_wp2_with fail
        refine ct.mono ?_
        rintro e w1 ⟨rfl, rfl⟩
        go_wp2_with fail
        refine cv.mono ?_
        rintro e w1 ⟨rfl, rfl⟩
        go_wp2_with fail
        go_ret
        exact ⟨rfl, rfl⟩
    · obtain ⟨h1, h2, h4⟩ := thrB_of h3
      obtain ⟨ht, hl⟩ := fOf_some h
      have c5 := sv_all h3 t s w ht (by rw [bl_size, ht]; omega)
      rw [valI_t h h3]
      rw [twoB_mk h1 h2] at ct
      rw [h4] at cv
      clear h h3 h1 h2 h4 ht hl
      go_enter Tryz.func77, Tryz.ntmps77
      go_wp2_with fail
      refine cf.mono ?_
      rintro e w1 ⟨rfl, rfl⟩
      go_wp2_with fail
      refine ct.mono ?_
      rintro e w1 ⟨rfl, rfl⟩
      go_wp2_with fail
      refine cv.mono ?_
      rintro e w1 ⟨rfl, rfl⟩
      go_wp2_with fail
      refine c5.mono ?_
      rintro e w1 ⟨rfl, rfl⟩
      go_wp2_with fail
      go_ret
      exact ⟨rfl, rfl⟩

end Go.Proofs.YtlnffpofbfigaaaGreatDoor
