/-
  The reader of formulas of impl: next, formula, pair. A text of any length is read; what is found is what the plain parser finds.
-/
import Derived.Test.YtakjlfcgciglgaaDoorSignMap
import Derived.Test.YtakjlfcgciglgaaDoorFVal
import Derived.Outline
import Derived.Lib.Strings
import Derived.BigQuiet
import Derived.Deep.QuietTactic
import Derived.Deep.RegionHeld
import Derived.BigGuardPart
namespace Go.Proofs.YtakjlfcgciglgaaDoor
open Go.RowKit Go.Maps Go.Joins

def bl (s : ByteArray) : List UInt8 := s.data.toList
theorem bl_size (s : ByteArray) : s.size = (bl s).length := Lib.size_eq s
theorem bl_mk {s : ByteArray} {l : List UInt8} (h : bl s = l) : s = ⟨l.toArray⟩ := by rw [← h]; rfl
theorem bl_of (l : List UInt8) : bl ⟨l.toArray⟩ = l := rfl
theorem bl_inj {s u : ByteArray} (h : bl s = bl u) : s = u := by rw [bl_mk h]; rfl
theorem bl_head {s : ByteArray} {c : UInt8} {l : List UInt8} (h : bl s = c :: l) : s.extract 0 1 = ⟨#[c]⟩ := by
  rw [Lib.extract_eq]; show (⟨((bl s).drop 0 |>.take 1).toArray⟩ : ByteArray) = _; rw [h]; rfl
theorem bl_tail {s : ByteArray} {c : UInt8} {l : List UInt8} (h : bl s = c :: l) : bl (s.extract 1 s.size) = l := by
  have e := Lib.extract_data s 1 s.size
  show (s.extract 1 s.size).data.toList = l
  rw [e]; show ((bl s).drop 1).take (s.size - 1) = l
  rw [bl_size, h]; simp
theorem bl_empty {s : ByteArray} (h : bl s = []) : s.toList.isEmpty = true := by rw [ByteArray.toList_eq]; show (bl s).isEmpty = true; rw [h]; rfl
theorem bl_full {s : ByteArray} {c : UInt8} {l : List UInt8} (h : bl s = c :: l) : s.toList.isEmpty = false := by rw [ByteArray.toList_eq]; show (bl s).isEmpty = false; rw [h]; rfl

def Sg.fn : Sg → FuncId
  | .fol => 29
  | .plus => 30
  | .times => 31
  | .less => 32
  | .great => 33

def IsNode (v : Value) : Prop := v = .nilIface ∨ ∃ T p, v = .iface T p

/-- Block R is a reader whose rest is s, over the map of signs in block B. -/
def RdF (w : World) (R B : Nat) (s : ByteArray) : Prop :=
  w.cell? ⟨R, 0, none⟩ = some (.string s) ∧ w.cell? ⟨R, 1, none⟩ = some (.map (some B)) ∧ w.frozen? ⟨R, 0, none⟩ = false ∧ w.ownsMap Tryd.prog 9 anyElem B 5 signsD ∧ B ≠ R

theorem RdF.set {w : World} {R B : Nat} {s u : ByteArray} (h : RdF w R B s) : RdF (w.setCell ⟨R, 0, none⟩ (.string u)) R B u := by
  obtain ⟨h1, h2, h3, h4, h5⟩ := h
  refine ⟨?_, ?_, ?_, h4.kept (grownBy_set w R 0 _) (by simpa using h5), h5⟩
  · rw [World.cell?_setCell_same _ _ _ h1]
  · rw [World.cell?_setCell_other _ _ _ _ (by simp)]; exact h2
  · rw [World.frozen?_setCell]; exact h3

def NextNo (w : World) (e : Ending) (w' : World) : Prop := e = .returned (.string ⟨#[]⟩) ∧ w = w'
def NextPost (c : UInt8) (l : List UInt8) (R B : Nat) (w : World) (e : Ending) (w' : World) : Prop :=
  ∃ s', bl s' = l ∧ e = .returned (.string ⟨#[c]⟩) ∧ RdF w' R B s' ∧ w.grownBy w' (some R)

theorem signs_at (g : Sg) : signsD.atKey (signK g.byte) (.held .nilFunc) = .held (.func (.func g.fn) #[] #[]) ∧ Maps.has signsD (signK g.byte) = true := by
  cases g
  · exact signs_fol
  · exact signs_plus
  · exact signs_times
  · exact signs_less
  · exact signs_great

theorem signs_not {kl : Lit} (h : ∀ g : Sg, kl ≠ signK g.byte) : signsD.atKey kl (.held .nilFunc) = .held .nilFunc ∧ Maps.has signsD kl = false := by
  unfold signsD
  have h1 : kl ≠ signK 62 := h .fol
  have h2 : kl ≠ signK 43 := h .plus
  have h3 : kl ≠ signK 42 := h .times
  have h4 : kl ≠ signK 38 := h .less
  have h5 : kl ≠ signK 124 := h .great
  rw [atKey_put_other h5, atKey_put_other h4, atKey_put_other h3, atKey_put_other h2, atKey_put_other h1,
    has_put_other h5, has_put_other h4, has_put_other h3, has_put_other h2, has_put_other h1]
  exact ⟨rfl, rfl⟩

/-- What is not found by name in a map that the call owns. -/
theorem look_no {P : Program} {w : World} {t k e : TypeId} {b n : Nat} {D : DataW Value} (h : w.ownsMap P k anyElem b n D) (K : Keyed P k) (ht : P.underlying t = some (.map k e)) {z : Value} (hz : (zeroValue e).run P w = .ok z w)
    {key : Value} {kl : Lit} (hkey : keyOf P k key = some kl) (hv : D.atKey kl (.held z) = .held z) (hh : Maps.has D kl = false) :
    (Instr.lookup t (.map (some b)) key true).run P w = .ok (.tuple #[z, .bool false]) w := by
  obtain ⟨u, ps, hrun, hu⟩ := h.look_ok K ht hz (zd := .held z) (zp := []) rfl hkey
  rw [hv] at hu
  rw [hh] at hrun
  simp [anyElem] at hu
  rw [hrun, hu.1]

theorem RdF.look {w : World} {R B : Nat} {s : ByteArray} (h : RdF w R B s) (g : Sg) :
    (Instr.lookup 37 (.map (some B)) (.string ⟨#[g.byte]⟩) true).run Tryd.prog w = .ok (.tuple #[.func (.func g.fn) #[] #[], .bool true]) w :=
  look_own h.2.2.2.1 keyedS Tryd.underlying37 (zeroSign _) (signK_of g.byte) (signs_at g).1 (signs_at g).2

theorem RdF.look_not {w : World} {R B : Nat} {s : ByteArray} (h : RdF w R B s) {d : UInt8} (hd : sgOf d = none) :
    (Instr.lookup 37 (.map (some B)) (.string ⟨#[d]⟩) true).run Tryd.prog w = .ok (.tuple #[.nilFunc, .bool false]) w := by
  have hk : ∀ g : Sg, signK d ≠ signK g.byte := by
    intro g e
    unfold signK at e
    have : d = g.byte := by simpa using e
    rw [this, sgOf_byte] at hd
    cases hd
  exact look_no h.2.2.2.1 keyedS Tryd.underlying37 (zeroSign _) (signK_of d) (signs_not hk).1 (signs_not hk).2

theorem RdF.look_empty {w : World} {R B : Nat} {s : ByteArray} (h : RdF w R B s) :
    (Instr.lookup 37 (.map (some B)) (.string ⟨#[]⟩) true).run Tryd.prog w = .ok (.tuple #[.nilFunc, .bool false]) w := by
  have hk : ∀ g : Sg, Lit.string [] ≠ signK g.byte := by
    intro g e
    unfold signK at e
    simp at e
  have hz : keyOf Tryd.prog 9 (.string ⟨#[]⟩) = some (Lit.string []) := WideMaps.keyOf_string_mk Tryd.underlying9 (by show (0 : Nat) ≤ maxLen; omega)
  exact look_no h.2.2.2.1 keyedS Tryd.underlying37 (zeroSign _) hz (signs_not hk).1 (signs_not hk).2

end Go.Proofs.YtakjlfcgciglgaaDoor
