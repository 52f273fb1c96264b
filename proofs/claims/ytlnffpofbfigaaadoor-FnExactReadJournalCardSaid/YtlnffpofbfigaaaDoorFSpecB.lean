/-
  The model's BasicOf and LettersIn: l4Basic by induction on the tree whose text it is given; letters counted byte by byte. No condition.
-/
import Derived.Test.YtlnffpofbfigaaaDoorFSpecV
import Derived.Test.YtlnffpofbfigaaaDoorFCell
import Derived.LoopTactic
namespace Go.Proofs.YtlnffpofbfigaaaDoor
open Go.RowKit

def fb (t : Tr) : ByteArray := ⟨t.bas.txt.toArray⟩
theorem bl_fb (t : Tr) : bl (fb t) = t.bas.txt := rfl
theorem fb_size {t : Tr} (h : t.txt.length ≤ 60) : (fb t).size ≤ 32212255320 := by rw [bl_size, bl_fb]; exact bas_small h
theorem fb_mk {s : ByteArray} {t : Tr} (h : bl s = t.txt) (hb : t.bas = t) : s = fb t := bl_inj (by rw [bl_fb, hb, h])

theorem fb_neg (x : Tr) : (⟨#[40]⟩ : ByteArray) ++ fb x ++ ⟨#[62, 48, 41]⟩ = fb (.neg x) := by
  apply bl_inj
  rw [bl_app, bl_app, bl_fb, bl_fb]
  show [40] ++ x.bas.txt ++ [62, 48, 41] = 40 :: (x.bas.txt ++ 62 :: ([48] ++ [41]))
  simp

theorem fb_fol (x y : Tr) : (⟨#[40]⟩ : ByteArray) ++ fb x ++ (⟨#[62]⟩ : ByteArray) ++ fb y ++ (⟨#[41]⟩ : ByteArray) = fb (.bin .fol x y) := by
  apply bl_inj
  rw [bl_app, bl_app, bl_app, bl_app]
  show [40] ++ x.bas.txt ++ [62] ++ y.bas.txt ++ [41] = (Tr.bin .fol x y).bas.txt
  simp [Tr.bas, Tr.txt, Sg.byte]

theorem fb_plus (x y : Tr) : (⟨#[40, 40]⟩ : ByteArray) ++ fb x ++ (⟨#[62, 48, 41, 62]⟩ : ByteArray) ++ fb y ++ (⟨#[41]⟩ : ByteArray) = fb (.bin .plus x y) := by
  apply bl_inj
  rw [bl_app, bl_app, bl_app, bl_app]
  show [40, 40] ++ x.bas.txt ++ [62, 48, 41, 62] ++ y.bas.txt ++ [41] = (Tr.bin .plus x y).bas.txt
  simp [Tr.bas, Tr.no, Tr.F, Tr.txt, Sg.byte]

theorem fb_times (x y : Tr) : (⟨#[40, 40]⟩ : ByteArray) ++ fb x ++ (⟨#[62, 40]⟩ : ByteArray) ++ fb y ++ (⟨#[62, 48, 41, 41, 62, 48, 41]⟩ : ByteArray) = fb (.bin .times x y) := by
  apply bl_inj
  rw [bl_app, bl_app, bl_app, bl_app]
  show [40, 40] ++ x.bas.txt ++ [62, 40] ++ y.bas.txt ++ [62, 48, 41, 41, 62, 48, 41] = (Tr.bin .times x y).bas.txt
  simp [Tr.bas, Tr.no, Tr.F, Tr.txt, Sg.byte]

theorem fb_less (x y : Tr) : (⟨#[40, 40]⟩ : ByteArray) ++ fb x ++ (⟨#[62, 40, 40]⟩ : ByteArray) ++ fb x ++ (⟨#[62]⟩ : ByteArray) ++ fb y ++ (⟨#[41, 62, 48, 41, 41, 62, 48, 41]⟩ : ByteArray) = fb (.bin .less x y) := by
  apply bl_inj
  rw [bl_app, bl_app, bl_app, bl_app, bl_app, bl_app]
  show [40, 40] ++ x.bas.txt ++ [62, 40, 40] ++ x.bas.txt ++ [62] ++ y.bas.txt ++ [41, 62, 48, 41, 41, 62, 48, 41] = (Tr.bin .less x y).bas.txt
  simp [Tr.bas, Tr.no, Tr.F, Tr.txt, Sg.byte]

theorem fb_great (x y : Tr) : (⟨#[40, 40]⟩ : ByteArray) ++ fb x ++ (⟨#[62]⟩ : ByteArray) ++ fb y ++ (⟨#[41, 62]⟩ : ByteArray) ++ fb y ++ (⟨#[41]⟩ : ByteArray) = fb (.bin .great x y) := by
  apply bl_inj
  rw [bl_app, bl_app, bl_app, bl_app, bl_app, bl_app]
  show [40, 40] ++ x.bas.txt ++ [62] ++ y.bas.txt ++ [41, 62] ++ y.bas.txt ++ [41] = (Tr.bin .great x y).bas.txt
  simp [Tr.bas, Tr.txt, Sg.byte]

theorem take_snoc {s : ByteArray} {k : Nat} (h : k < s.size) : (bl s).take (k + 1) = (bl s).take k ++ [s[k]] := by
  unfold bl
  rw [List.take_succ_eq_append_getElem (by rw [← Lib.size_eq]; exact h)]; rfl

def LRel (s : ByteArray) (v i : Value) : Prop := ∃ k q : Nat, k ≤ s.size ∧ i = .int .i64 k ∧ v = .int .i64 q ∧ q ≤ k ∧ Hid (nL ((bl s).take k) = q)

theorem count_yes {s : ByteArray} {k q : Nat} (h : k < s.size) (hq : nL ((bl s).take k) = q) (hb : inB (s[k].toNat : Int) 97 99 = true) : nL ((bl s).take (k + 1)) = q + 1 := by
  have hc : isL s[k] = inB (s[k].toNat : Int) 97 99 := rfl
  rw [take_snoc h, nL_app, nL_cons, hc, hb, hq]; rfl
theorem count_no {s : ByteArray} {k q : Nat} (h : k < s.size) (hq : nL ((bl s).take k) = q) (hb : inB (s[k].toNat : Int) 97 99 = false) : nL ((bl s).take (k + 1)) = q := by
  have hc : isL s[k] = inB (s[k].toNat : Int) 97 99 := rfl
  rw [take_snoc h, nL_app, nL_cons, hc, hb, hq]; rfl
theorem count_all {s : ByteArray} {q : Nat} (hq : nL ((bl s).take s.size) = q) : nL (bl s) = q := by
  rw [← hq, List.take_of_length_le (by rw [bl_size]; exact Nat.le_refl _)]

end Go.Proofs.YtlnffpofbfigaaaDoor
