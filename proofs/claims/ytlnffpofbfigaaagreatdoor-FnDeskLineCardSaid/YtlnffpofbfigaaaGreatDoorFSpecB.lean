/-
  The model's BasicOf and LettersIn: l4Basic by induction on the tree whose text it is given; letters counted byte by byte. No condition.
-/
import Derived.Test.YtlnffpofbfigaaaGreatDoorFSpecV
import Derived.Test.YtlnffpofbfigaaaGreatDoorFCell
import Derived.LoopTactic
namespace Go.Proofs.YtlnffpofbfigaaaGreatDoor
open Go.RowKit

def fb (t : Tr) : ByteArray := ⟨t.bas.txt.toArray⟩
theorem bl_fb (t : Tr) : bl (fb t) = t.bas.txt := rfl
theorem fb_size {t : Tr} (h : t.txt.length ≤ 60) : (fb t).size ≤ 32212255320 := by rw [bl_size, bl_fb]; exact bas_small h
theorem fb_mk {s : ByteArray} {t : Tr} (h : bl s = t.txt) (hb : t.bas = t) : s = fb t := bl_inj (by rw [bl_fb, hb, h])

theorem fb_neg (x : Tr) : (⟨#[40]⟩ : ByteArray) ++ fb x ++ ⟨#[62, 48, 41]⟩ = fb (.neg x) := by
  apply bl_inj
  rw [bl_app, bl_app, bl_fb, bl_fb]
  show [40] ++ x.bas.txt ++ [62, 48, 41] = 40 :: (x.bas.txt ++ 62 :: ([48] ++ [41]))
  simp

theorem fb_fol (x y : Tr) : (⟨#[40]⟩ : ByteArray) ++ fb x ++ (⟨#[62]⟩ : ByteArray) ++ fb y ++ (⟨#[41]⟩ : ByteArray) = fb (.bin .fol x y) := by
  apply bl_inj
  rw [bl_app, bl_app, bl_app, bl_app]
  show [40] ++ x.bas.txt ++ [62] ++ y.bas.txt ++ [41] = (Tr.bin .fol x y).bas.txt
  simp [Tr.bas, Tr.txt, Sg.byte]

theorem fb_plus (x y : Tr) : (⟨#[40, 40]⟩ : ByteArray) ++ fb x ++ (⟨#[62, 48, 41, 62]⟩ : ByteArray) ++ fb y ++ (⟨#[41]⟩ : ByteArray) = fb (.bin .plus x y) := by
  apply bl_inj
  rw [bl_app, bl_app, bl_app, bl_app]
  show [40, 40] ++ x.bas.txt ++ [62, 48, 41, 62] ++ y.bas.txt ++ [41] = (Tr.bin .plus x y).bas.txt
  simp [Tr.bas, Tr.no, Tr.F, Tr.txt, Sg.byte]

theorem fb_times (x y : Tr) : (⟨#[40, 40]⟩ : ByteArray) ++ fb x ++ (⟨#[62, 40]⟩ : ByteArray) ++ fb y ++ (⟨#[62, 48, 41, 41, 62, 48, 41]⟩ : ByteArray) = fb (.bin .times x y) := by
  apply bl_inj
  rw [bl_app, bl_app, bl_app, bl_app]
  show [40, 40] ++ x.bas.txt ++ [62, 40] ++ y.bas.txt ++ [62, 48, 41, 41, 62, 48, 41] = (Tr.bin .times x y).bas.txt
  simp [Tr.bas, Tr.no, Tr.F, Tr.txt, Sg.byte]

theorem fb_less (x y : Tr) : (⟨#[40, 40]⟩ : ByteArray) ++ fb x ++ (⟨#[62, 40, 40]⟩ : ByteArray) ++ fb x ++ (⟨#[62]⟩ : ByteArray) ++ fb y ++ (⟨#[41, 62, 48, 41, 41, 62, 48, 41]⟩ : ByteArray) = fb (.bin .less x y) := by
  apply bl_inj
  rw [bl_app, bl_app, bl_app, bl_app, bl_app, bl_app]
  show [40, 40] ++ x.bas.txt ++ [62, 40, 40] ++ x.bas.txt ++ [62] ++ y.bas.txt ++ [41, 62, 48, 41, 41, 62, 48, 41] = (Tr.bin .less x y).bas.txt
  simp [Tr.bas, Tr.no, Tr.F, Tr.txt, Sg.byte]

theorem fb_great (x y : Tr) : (⟨#[40, 40]⟩ : ByteArray) ++ fb x ++ (⟨#[62]⟩ : ByteArray) ++ fb y ++ (⟨#[41, 62]⟩ : ByteArray) ++ fb y ++ (⟨#[41]⟩ : ByteArray) = fb (.bin .great x y) := by
  apply bl_inj
  rw [bl_app, bl_app, bl_app, bl_app, bl_app, bl_app]
  show [40, 40] ++ x.bas.txt ++ [62] ++ y.bas.txt ++ [41, 62] ++ y.bas.txt ++ [41] = (Tr.bin .great x y).bas.txt
  simp [Tr.bas, Tr.txt, Sg.byte]

def SbOk (t : Tr) : Prop := ∀ (s : ByteArray) (w : World), bl s = t.txt → t.txt.length ≤ 60 →
  Calls Tryz.prog 177 #[.string s] w fun e w' => e = .returned (.string (fb t)) ∧ w = w'

theorem sb_lt (k : Lr) : SbOk (.lt k) := by
  intro s w h _
  have hi := fun w => idx0_run (c := k.byte) (r := []) h w
  have hz : 1 ≤ s.size := by rw [bl_size, h]; exact txt_pos _
  have e := Lib.hid (fb_mk h rfl)
  clear h
  cases k
  all_goals
    unfold Lr.byte at hi
    go_enter Tryz.func177, Tryz.ntmps177
    go_wp2_with fail
    go_ret
    exact ⟨by rw [← e.out]; rfl, rfl⟩

theorem sb_tru (k : Bool) : SbOk (.tru k) := by
  intro s w h _
  have hi := fun w => idx0_run (c := if k then 49 else 48) (r := []) h w
  have hz : 1 ≤ s.size := by rw [bl_size, h]; exact txt_pos _
  cases k
  · have e := Lib.hid (fb_mk h rfl)
    clear h
    simp only [Bool.false_eq_true, if_false] at hi
    go_enter Tryz.func177, Tryz.ntmps177
    go_wp2_with fail
    go_ret
    exact ⟨by rw [← e.out]; rfl, rfl⟩
  · clear h
    simp only [if_true] at hi
    go_enter Tryz.func177, Tryz.ntmps177
    go_wp2_with fail
    go_ret
    exact ⟨rfl, rfl⟩

theorem sb_neg {x : Tr} (ih : SbOk x) : SbOk (.neg x) := by
  intro s w h hs
  have hi := fun w => idx0_run (c := 33) (r := x.txt) h w
  have hz : 1 ≤ s.size := by rw [bl_size, h]; exact txt_pos _
  have ht := bl_tail (c := 33) (l := x.txt) h
  have hx : x.txt.length ≤ 60 := by simp [Tr.txt] at hs; omega
  have hf := fb_size hx
  have m : maxLen = 9223372036854775807 := rfl
  have c1 := ih (s.extract 1 s.size) w ht hx
  have e := Lib.hid (fb_neg x)
  generalize fb (.neg x) = z at *
  generalize fb x = u at *
  clear h ht ih hx hs
  go_enter Tryz.func177, Tryz.ntmps177
  go_wp2_with fail
  refine c1.mono ?_
  rintro e w1 ⟨rfl, rfl⟩
  clear c1
  go_wp2_with fail
  go_ret
  exact ⟨by rw [← e.out]; rfl, rfl⟩

theorem sb_fol {x y : Tr} (ihx : SbOk x) (ihy : SbOk y) : SbOk (.bin .fol x y) := by
  intro s w h hs
  obtain ⟨m, hm, hz, _, hd, ex, ey, _, px, py⟩ := bin_parts h
  have hs1 : s.size ≤ 1048576 := by rw [bl_size, h]; omega
  have hb := bin_len .fol x y
  have hx : x.txt.length ≤ 60 := by omega
  have hy : y.txt.length ≤ 60 := by omega
  have fx := fb_size hx
  have fy := fb_size hy
  have ml : maxLen = 9223372036854775807 := rfl
  have hi := fun w => idx0_run (c := 40) h w
  have hj := fun w => idx_run hd w
  have c0 := bin_end h hs1 hm w
  have c1 := ihx (s.extract 1 m) w ex hx
  have c2 := ihy (s.extract (m + 1) (s.size - 1)) w ey hy
  have e := Lib.hid (fb_fol x y)
  have q1 : 1 ≤ m := by omega
  have q2 : m + 1 ≤ s.size - 1 := by omega
  have q3 : m < s.size := by omega
  unfold Sg.byte at hj
  generalize fb (.bin .fol x y) = z at *
  generalize fb x = u at *
  generalize fb y = v at *
  clear h ex ey ihx ihy hx hy hd hm hz px py hs hb
  go_enter Tryz.func177, Tryz.ntmps177
  go_wp2_with fail
  refine c0.mono ?_
  rintro e w1 ⟨rfl, rfl⟩
  clear c0
  go_wp2_with fail
  refine c1.mono ?_
  rintro e w1 ⟨rfl, rfl⟩
  clear c1
  go_wp2_with fail
  refine c2.mono ?_
  rintro e w1 ⟨rfl, rfl⟩
  clear c2
  go_wp2_with fail
  go_ret
  exact ⟨by rw [← e.out]; rfl, rfl⟩

theorem sb_plus {x y : Tr} (ihx : SbOk x) (ihy : SbOk y) : SbOk (.bin .plus x y) := by
  intro s w h hs
  obtain ⟨m, hm, hz, _, hd, ex, ey, _, px, py⟩ := bin_parts h
  have hs1 : s.size ≤ 1048576 := by rw [bl_size, h]; omega
  have hb := bin_len .plus x y
  have hx : x.txt.length ≤ 60 := by omega
  have hy : y.txt.length ≤ 60 := by omega
  have fx := fb_size hx
  have fy := fb_size hy
  have ml : maxLen = 9223372036854775807 := rfl
  have hi := fun w => idx0_run (c := 40) h w
  have hj := fun w => idx_run hd w
  have c0 := bin_end h hs1 hm w
  have c1 := ihx (s.extract 1 m) w ex hx
  have c2 := ihy (s.extract (m + 1) (s.size - 1)) w ey hy
  have e := Lib.hid (fb_plus x y)
  have q1 : 1 ≤ m := by omega
  have q2 : m + 1 ≤ s.size - 1 := by omega
  have q3 : m < s.size := by omega
  unfold Sg.byte at hj
  generalize fb (.bin .plus x y) = z at *
  generalize fb x = u at *
  generalize fb y = v at *
  clear h ex ey ihx ihy hx hy hd hm hz px py hs hb
  go_enter Tryz.func177, Tryz.ntmps177
  go_wp2_with fail
  refine c0.mono ?_
  rintro e w1 ⟨rfl, rfl⟩
  clear c0
  go_wp2_with fail
  refine c1.mono ?_
  rintro e w1 ⟨rfl, rfl⟩
  clear c1
  go_wp2_with fail
  refine c2.mono ?_
  rintro e w1 ⟨rfl, rfl⟩
  clear c2
  go_wp2_with fail
  go_ret
  exact ⟨by rw [← e.out]; rfl, rfl⟩

theorem sb_times {x y : Tr} (ihx : SbOk x) (ihy : SbOk y) : SbOk (.bin .times x y) := by
  intro s w h hs
  obtain ⟨m, hm, hz, _, hd, ex, ey, _, px, py⟩ := bin_parts h
  have hs1 : s.size ≤ 1048576 := by rw [bl_size, h]; omega
  have hb := bin_len .times x y
  have hx : x.txt.length ≤ 60 := by omega
  have hy : y.txt.length ≤ 60 := by omega
  have fx := fb_size hx
  have fy := fb_size hy
  have ml : maxLen = 9223372036854775807 := rfl
  have hi := fun w => idx0_run (c := 40) h w
  have hj := fun w => idx_run hd w
  have c0 := bin_end h hs1 hm w
  have c1 := ihx (s.extract 1 m) w ex hx
  have c2 := ihy (s.extract (m + 1) (s.size - 1)) w ey hy
  have e := Lib.hid (fb_times x y)
  have q1 : 1 ≤ m := by omega
  have q2 : m + 1 ≤ s.size - 1 := by omega
  have q3 : m < s.size := by omega
  unfold Sg.byte at hj
  generalize fb (.bin .times x y) = z at *
  generalize fb x = u at *
  generalize fb y = v at *
  clear h ex ey ihx ihy hx hy hd hm hz px py hs hb
  go_enter Tryz.func177, Tryz.ntmps177
  go_wp2_with fail
  refine c0.mono ?_
  rintro e w1 ⟨rfl, rfl⟩
  clear c0
  go_wp2_with fail
  refine c1.mono ?_
  rintro e w1 ⟨rfl, rfl⟩
  clear c1
  go_wp2_with fail
  refine c2.mono ?_
  rintro e w1 ⟨rfl, rfl⟩
  clear c2
  go_wp2_with fail
  go_ret
  exact ⟨by rw [← e.out]; rfl, rfl⟩

theorem sb_less {x y : Tr} (ihx : SbOk x) (ihy : SbOk y) : SbOk (.bin .less x y) := by
  intro s w h hs
  obtain ⟨m, hm, hz, _, hd, ex, ey, _, px, py⟩ := bin_parts h
  have hs1 : s.size ≤ 1048576 := by rw [bl_size, h]; omega
  have hb := bin_len .less x y
  have hx : x.txt.length ≤ 60 := by omega
  have hy : y.txt.length ≤ 60 := by omega
  have fx := fb_size hx
  have fy := fb_size hy
  have ml : maxLen = 9223372036854775807 := rfl
  have hi := fun w => idx0_run (c := 40) h w
  have hj := fun w => idx_run hd w
  have c0 := bin_end h hs1 hm w
  have c1 := ihx (s.extract 1 m) w ex hx
  have c2 := ihy (s.extract (m + 1) (s.size - 1)) w ey hy
  have e := Lib.hid (fb_less x y)
  have q1 : 1 ≤ m := by omega
  have q2 : m + 1 ≤ s.size - 1 := by omega
  have q3 : m < s.size := by omega
  unfold Sg.byte at hj
  generalize fb (.bin .less x y) = z at *
  generalize fb x = u at *
  generalize fb y = v at *
  clear h ex ey ihx ihy hx hy hd hm hz px py hs hb
  go_enter Tryz.func177, Tryz.ntmps177
  go_wp2_with fail
  refine c0.mono ?_
  rintro e w1 ⟨rfl, rfl⟩
  clear c0
  go_wp2_with fail
  refine c1.mono ?_
  rintro e w1 ⟨rfl, rfl⟩
  clear c1
  go_wp2_with fail
  refine c2.mono ?_
  rintro e w1 ⟨rfl, rfl⟩
  clear c2
  go_wp2_with fail
  go_ret
  exact ⟨by rw [← e.out]; rfl, rfl⟩

theorem sb_great {x y : Tr} (ihx : SbOk x) (ihy : SbOk y) : SbOk (.bin .great x y) := by
  intro s w h hs
  obtain ⟨m, hm, hz, _, hd, ex, ey, _, px, py⟩ := bin_parts h
  have hs1 : s.size ≤ 1048576 := by rw [bl_size, h]; omega
  have hb := bin_len .great x y
  have hx : x.txt.length ≤ 60 := by omega
  have hy : y.txt.length ≤ 60 := by omega
  have fx := fb_size hx
  have fy := fb_size hy
  have ml : maxLen = 9223372036854775807 := rfl
  have hi := fun w => idx0_run (c := 40) h w
  have hj := fun w => idx_run hd w
  have c0 := bin_end h hs1 hm w
  have c1 := ihx (s.extract 1 m) w ex hx
  have c2 := ihy (s.extract (m + 1) (s.size - 1)) w ey hy
  have e := Lib.hid (fb_great x y)
  have q1 : 1 ≤ m := by omega
  have q2 : m + 1 ≤ s.size - 1 := by omega
  have q3 : m < s.size := by omega
  unfold Sg.byte at hj
  generalize fb (.bin .great x y) = z at *
  generalize fb x = u at *
  generalize fb y = v at *
  clear h ex ey ihx ihy hx hy hd hm hz px py hs hb
  go_enter Tryz.func177, Tryz.ntmps177
  go_wp2_with fail
  refine c0.mono ?_
  rintro e w1 ⟨rfl, rfl⟩
  clear c0
  go_wp2_with fail
  refine c1.mono ?_
  rintro e w1 ⟨rfl, rfl⟩
  clear c1
  go_wp2_with fail
  refine c2.mono ?_
  rintro e w1 ⟨rfl, rfl⟩
  clear c2
  go_wp2_with fail
  go_ret
  exact ⟨by rw [← e.out]; rfl, rfl⟩

theorem sb_all : ∀ t : Tr, SbOk t := by
  intro t
  induction t with
  | lt k => exact sb_lt k
  | tru k => exact sb_tru k
  | neg x ih => exact sb_neg ih
  | bin g x y ihx ihy =>
    cases g
    · exact sb_fol ihx ihy
    · exact sb_plus ihx ihy
    · exact sb_times ihx ihy
    · exact sb_less ihx ihy
    · exact sb_great ihx ihy

theorem sbasic_any (s : ByteArray) (w : World) :
    Calls Tryz.prog 142 #[.string s] w fun e w' => e = .returned (.tuple #[.string (bbT (bl s)), .bool (basB (bl s))]) ∧ w = w' := by
  have cf := sform_any s w
  cases h : fOf (bl s) with
  | none =>
    have e1 : bbT (bl s) = ⟨#[]⟩ := by unfold bbT; rw [basT_f h]
    rw [e1, basB_f h]
    rw [isF_f h] at cf
    clear h e1
    go_enter Tryz.func142, Tryz.ntmps142
    go_wp2_with fail
    refine cf.mono ?_
    rintro e w1 ⟨rfl, rfl⟩
    go_wp2_with fail
    go_ret2
    exact ⟨rfl, rfl⟩
  | some t =>
    obtain ⟨ht, hl⟩ := fOf_some h
    have c1 := sb_all t s w ht hl
    have c2 := sform_any (fb t) w
    rw [isF_t h] at cf
    have e1 : bbT (bl s) = lb t.bas := by unfold bbT; rw [basT_t h]; rfl
    rw [e1, basB_t h]
    by_cases hb : t.bas.txt.length ≤ 60
    · have e2 : isF (bl (fb t)) = true := isF_t (fOf_txt hb)
      have e3 : lb t.bas = fb t := by unfold lb fb; rw [lim_t hb]
      rw [e2] at c2
      rw [decide_eq_true hb, e3]
      clear h e1 e2 e3 hb ht hl
      go_enter Tryz.func142, Tryz.ntmps142
      go_wp2_with fail
      refine cf.mono ?_
      rintro e w1 ⟨rfl, rfl⟩
      go_wp2_with fail
      refine c1.mono ?_
      rintro e w1 ⟨rfl, rfl⟩
      go_wp2_with fail
      refine c2.mono ?_
      rintro e w1 ⟨rfl, rfl⟩
      go_wp2_with fail
      go_ret2
      exact ⟨rfl, rfl⟩
    · have e2 : isF (bl (fb t)) = false := isF_f (fOf_long (by rw [bl_fb]; omega))
      have e3 : lb t.bas = ⟨#[]⟩ := (lb_long hb).symm
      rw [e2] at c2
      rw [decide_eq_false hb, e3]
      clear h e1 e2 e3 hb ht hl
      go_enter Tryz.func142, Tryz.ntmps142
      go_wp2_with fail
      refine cf.mono ?_
      rintro e w1 ⟨rfl, rfl⟩
      go_wp2_with fail
      refine c1.mono ?_
      rintro e w1 ⟨rfl, rfl⟩
      go_wp2_with fail
      refine c2.mono ?_
      rintro e w1 ⟨rfl, rfl⟩
      go_wp2_with fail
      go_ret2
      exact ⟨rfl, rfl⟩

theorem take_snoc {s : ByteArray} {k : Nat} (h : k < s.size) : (bl s).take (k + 1) = (bl s).take k ++ [s[k]] := by
  unfold bl
  rw [List.take_succ_eq_append_getElem (by rw [← Lib.size_eq]; exact h)]; rfl

def LRel (s : ByteArray) (v i : Value) : Prop := ∃ k q : Nat, k ≤ s.size ∧ i = .int .i64 k ∧ v = .int .i64 q ∧ q ≤ k ∧ Hid (nL ((bl s).take k) = q)

theorem count_yes {s : ByteArray} {k q : Nat} (h : k < s.size) (hq : nL ((bl s).take k) = q) (hb : inB (s[k].toNat : Int) 97 99 = true) : nL ((bl s).take (k + 1)) = q + 1 := by
  have hc : isL s[k] = inB (s[k].toNat : Int) 97 99 := rfl
  rw [take_snoc h, nL_app, nL_cons, hc, hb, hq]; rfl
theorem count_no {s : ByteArray} {k q : Nat} (h : k < s.size) (hq : nL ((bl s).take k) = q) (hb : inB (s[k].toNat : Int) 97 99 = false) : nL ((bl s).take (k + 1)) = q := by
  have hc : isL s[k] = inB (s[k].toNat : Int) 97 99 := rfl
  rw [take_snoc h, nL_app, nL_cons, hc, hb, hq]; rfl
theorem count_all {s : ByteArray} {q : Nat} (hq : nL ((bl s).take s.size) = q) : nL (bl s) = q := by
  rw [← hq, List.take_of_length_le (by rw [bl_size]; exact Nat.le_refl _)]

theorem sletters_any (s : ByteArray) (w : World) :
    Calls Tryz.prog 70 #[.string s] w fun e w' => e = .returned (.int .i64 (lsI (bl s))) ∧ w = w' := by
  have cf := sform_any s w
  cases h : fOf (bl s) with
  | none =>
    rw [lsI_f h]
    rw [isF_f h] at cf
    clear h
    go_enter Tryz.func70, Tryz.ntmps70
    go_wp2_with fail
    refine cf.mono ?_
    rintro e w1 ⟨rfl, rfl⟩
    go_wp2_with fail
    go_ret
    exact ⟨rfl, rfl⟩
  | some t =>
    obtain ⟨ht, hl⟩ := fOf_some h
    have hs : s.size ≤ 60 := by rw [bl_size, ht]; exact hl
    have e := Lib.hid (show lsI (bl s) = (nL (bl s) : Int) by rw [lsI_t h, ht, nL_txt])
    rw [isF_t h] at cf
    clear h ht hl
    go_enter Tryz.func70, Tryz.ntmps70
    go_wp2_with fail
    refine cf.mono ?_
    rintro e w1 ⟨rfl, rfl⟩
    clear cf
    go_wp2_with fail
    go_loop [3, 4] (fun v i => LRel s v i) (fun _ i => s.size - (intOf i).toNat)
    case atStart => exact ⟨0, 0, Nat.zero_le _, rfl, rfl, Nat.le_refl _, Lib.hid rfl⟩
    case round =>
      obtain ⟨k, q, hk, rfl, rfl, hqk, hq⟩ := hrel
      by_cases hlt : k < s.size
      · have hu : s[k].toNat < 256 := UInt8.toNat_lt _
        cases hb : inB (s[k].toNat : Int) 97 99
        · have hfin := Lib.hid (count_no hlt hq.out hb)
          go_wp2_with (go_at_call 96; refine (in_any _ _ _ _).mono ?_; rintro e w' ⟨rfl, rfl⟩)
          go_round
          case rel => exact ⟨k + 1, q, by omega, by go_num, rfl, by omega, hfin⟩
          case measure => simp [intOf]; omega
        · have hfin := Lib.hid (count_yes hlt hq.out hb)
          go_wp2_with (go_at_call 96; refine (in_any _ _ _ _).mono ?_; rintro e w' ⟨rfl, rfl⟩)
          go_round
          case rel => exact ⟨k + 1, q + 1, by omega, by go_num, by go_num, by omega, hfin⟩
          case measure => simp [intOf]; omega
      · obtain rfl : k = s.size := by omega
        have hall := Lib.hid (count_all hq.out)
        go_wp2
        go_ret
        exact ⟨by rw [e.out, hall.out]; rfl, rfl⟩

end Go.Proofs.YtlnffpofbfigaaaGreatDoor
