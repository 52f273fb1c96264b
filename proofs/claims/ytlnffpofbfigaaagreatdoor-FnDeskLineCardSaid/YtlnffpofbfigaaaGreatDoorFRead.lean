/-
  The reader of formulas of impl: next, formula, pair. A text of any length is read; what is found is what the plain parser finds.
-/
import Derived.Test.YtlnffpofbfigaaaGreatDoorSignMap
import Derived.Test.YtlnffpofbfigaaaGreatDoorFVal
import Derived.Outline
import Derived.Lib.Strings
import Derived.BigQuiet
import Derived.Deep.QuietTactic
import Derived.Deep.RegionHeld
import Derived.BigGuardPart
namespace Go.Proofs.YtlnffpofbfigaaaGreatDoor
open Go.RowKit Go.Maps Go.Joins

def bl (s : ByteArray) : List UInt8 := s.data.toList
theorem bl_size (s : ByteArray) : s.size = (bl s).length := Lib.size_eq s
theorem bl_mk {s : ByteArray} {l : List UInt8} (h : bl s = l) : s = ⟨l.toArray⟩ := by rw [← h]; rfl
theorem bl_of (l : List UInt8) : bl ⟨l.toArray⟩ = l := rfl
theorem bl_inj {s u : ByteArray} (h : bl s = bl u) : s = u := by rw [bl_mk h]; rfl
theorem bl_head {s : ByteArray} {c : UInt8} {l : List UInt8} (h : bl s = c :: l) : s.extract 0 1 = ⟨#[c]⟩ := by
  rw [Lib.extract_eq]; show (⟨((bl s).drop 0 |>.take 1).toArray⟩ : ByteArray) = _; rw [h]; rfl
theorem bl_tail {s : ByteArray} {c : UInt8} {l : List UInt8} (h : bl s = c :: l) : bl (s.extract 1 s.size) = l := by
  have e := Lib.extract_data s 1 s.size
  show (s.extract 1 s.size).data.toList = l
  rw [e]; show ((bl s).drop 1).take (s.size - 1) = l
  rw [bl_size, h]; simp
theorem bl_empty {s : ByteArray} (h : bl s = []) : s.toList.isEmpty = true := by rw [ByteArray.toList_eq]; show (bl s).isEmpty = true; rw [h]; rfl
theorem bl_full {s : ByteArray} {c : UInt8} {l : List UInt8} (h : bl s = c :: l) : s.toList.isEmpty = false := by rw [ByteArray.toList_eq]; show (bl s).isEmpty = false; rw [h]; rfl

def Sg.fn : Sg → FuncId
  | .fol => 170
  | .plus => 171
  | .times => 172
  | .less => 173
  | .great => 174

def nodeT : Tr → TypeId
  | .lt _ => 183
  | .tru _ => 184
  | .neg _ => 186
  | .bin _ _ _ => 205

def nodeP : Tr → Value
  | .lt k => .int .i64 k.num
  | .tru b => .bool b
  | .neg x => .agg #[.iface (nodeT x) (nodeP x)]
  | .bin g x y => .agg #[.string ⟨#[g.byte]⟩, .func (.func g.fn) #[] #[], .iface (nodeT x) (nodeP x), .iface (nodeT y) (nodeP y)]

def IsNode (v : Value) : Prop := v = .nilIface ∨ ∃ T p, v = .iface T p

/-- Block R is a reader whose rest is s, over the map of signs in block B. -/
def RdF (w : World) (R B : Nat) (s : ByteArray) : Prop :=
  w.cell? ⟨R, 0, none⟩ = some (.string s) ∧ w.cell? ⟨R, 1, none⟩ = some (.map (some B)) ∧ w.frozen? ⟨R, 0, none⟩ = false ∧ w.ownsMap Tryz.prog 9 anyElem B 5 signsD ∧ B ≠ R

theorem RdF.set {w : World} {R B : Nat} {s u : ByteArray} (h : RdF w R B s) : RdF (w.setCell ⟨R, 0, none⟩ (.string u)) R B u := by
  obtain ⟨h1, h2, h3, h4, h5⟩ := h
  refine ⟨?_, ?_, ?_, h4.kept (grownBy_set w R 0 _) (by simpa using h5), h5⟩
  · rw [World.cell?_setCell_same _ _ _ h1]
  · rw [World.cell?_setCell_other _ _ _ _ (by simp)]; exact h2
  · rw [World.frozen?_setCell]; exact h3

def NextNo (w : World) (e : Ending) (w' : World) : Prop := e = .returned (.string ⟨#[]⟩) ∧ w = w'
def NextPost (c : UInt8) (l : List UInt8) (R B : Nat) (w : World) (e : Ending) (w' : World) : Prop :=
  ∃ s', bl s' = l ∧ e = .returned (.string ⟨#[c]⟩) ∧ RdF w' R B s' ∧ w.grownBy w' (some R)

theorem next_no (s : ByteArray) (w : World) (R B : Nat) (h : RdF w R B s) (hs : bl s = []) :
    Calls Tryz.prog 175 #[.pointer (some ⟨R, 0, none⟩)] w (NextNo w) := by
  obtain ⟨h1, _, _, _, _⟩ := h
  have he := bl_empty hs
  clear hs
  go_enter Tryz.func175, Tryz.ntmps175
  go_wp2
  go_ret
  exact ⟨rfl, rfl⟩

theorem next_yes (s : ByteArray) (w : World) (R B : Nat) (h : RdF w R B s) (c : UInt8) (l : List UInt8) (hs : bl s = c :: l) :
    Calls Tryz.prog 175 #[.pointer (some ⟨R, 0, none⟩)] w (NextPost c l R B w) := by
  have H := h
  obtain ⟨h1, _, h3, _, _⟩ := h
  have he := bl_full hs
  have hsz : 1 ≤ s.size := by rw [bl_size, hs]; simp
  have ht := Lib.hid (bl_tail hs)
  have hh := Lib.hid (bl_head hs)
  clear hs
  go_enter Tryz.func175, Tryz.ntmps175
  go_wp2
  go_ret
  exact ⟨_, ht.out, by rw [hh.out]; rfl, H.set, grownBy_set _ _ _ _⟩

theorem signs_at (g : Sg) : signsD.atKey (signK g.byte) (.held .nilFunc) = .held (.func (.func g.fn) #[] #[]) ∧ Maps.has signsD (signK g.byte) = true := by
  cases g
  · exact signs_fol
  · exact signs_plus
  · exact signs_times
  · exact signs_less
  · exact signs_great

theorem signs_not {kl : Lit} (h : ∀ g : Sg, kl ≠ signK g.byte) : signsD.atKey kl (.held .nilFunc) = .held .nilFunc ∧ Maps.has signsD kl = false := by
  unfold signsD
  have h1 : kl ≠ signK 62 := h .fol
  have h2 : kl ≠ signK 43 := h .plus
  have h3 : kl ≠ signK 42 := h .times
  have h4 : kl ≠ signK 38 := h .less
  have h5 : kl ≠ signK 124 := h .great
  rw [atKey_put_other h5, atKey_put_other h4, atKey_put_other h3, atKey_put_other h2, atKey_put_other h1,
    has_put_other h5, has_put_other h4, has_put_other h3, has_put_other h2, has_put_other h1]
  exact ⟨rfl, rfl⟩

/-- What is not found by name in a map that the call owns. -/
theorem look_no {P : Program} {w : World} {t k e : TypeId} {b n : Nat} {D : DataW Value} (h : w.ownsMap P k anyElem b n D) (K : Keyed P k) (ht : P.underlying t = some (.map k e)) {z : Value} (hz : (zeroValue e).run P w = .ok z w)
    {key : Value} {kl : Lit} (hkey : keyOf P k key = some kl) (hv : D.atKey kl (.held z) = .held z) (hh : Maps.has D kl = false) :
    (Instr.lookup t (.map (some b)) key true).run P w = .ok (.tuple #[z, .bool false]) w := by
  obtain ⟨u, ps, hrun, hu⟩ := h.look_ok K ht hz (zd := .held z) (zp := []) rfl hkey
  rw [hv] at hu
  rw [hh] at hrun
  simp [anyElem] at hu
  rw [hrun, hu.1]

theorem RdF.look {w : World} {R B : Nat} {s : ByteArray} (h : RdF w R B s) (g : Sg) :
    (Instr.lookup 151 (.map (some B)) (.string ⟨#[g.byte]⟩) true).run Tryz.prog w = .ok (.tuple #[.func (.func g.fn) #[] #[], .bool true]) w :=
  look_own h.2.2.2.1 keyedS Tryz.underlying151 (zeroSign _) (signK_of g.byte) (signs_at g).1 (signs_at g).2

theorem RdF.look_not {w : World} {R B : Nat} {s : ByteArray} (h : RdF w R B s) {d : UInt8} (hd : sgOf d = none) :
    (Instr.lookup 151 (.map (some B)) (.string ⟨#[d]⟩) true).run Tryz.prog w = .ok (.tuple #[.nilFunc, .bool false]) w := by
  have hk : ∀ g : Sg, signK d ≠ signK g.byte := by
    intro g e
    unfold signK at e
    have : d = g.byte := by simpa using e
    rw [this, sgOf_byte] at hd
    cases hd
  exact look_no h.2.2.2.1 keyedS Tryz.underlying151 (zeroSign _) (signK_of d) (signs_not hk).1 (signs_not hk).2

theorem RdF.look_empty {w : World} {R B : Nat} {s : ByteArray} (h : RdF w R B s) :
    (Instr.lookup 151 (.map (some B)) (.string ⟨#[]⟩) true).run Tryz.prog w = .ok (.tuple #[.nilFunc, .bool false]) w := by
  have hk : ∀ g : Sg, Lit.string [] ≠ signK g.byte := by
    intro g e
    unfold signK at e
    simp at e
  have hz : keyOf Tryz.prog 9 (.string ⟨#[]⟩) = some (Lit.string []) := WideMaps.keyOf_string_mk Tryz.underlying9 (by show (0 : Nat) ≤ maxLen; omega)
  exact look_no h.2.2.2.1 keyedS Tryz.underlying151 (zeroSign _) hz (signs_not hk).1 (signs_not hk).2

def FNo (R B : Nat) (w : World) (e : Ending) (w' : World) : Prop :=
  ∃ v s', IsNode v ∧ e = .returned (.tuple #[v, .bool false]) ∧ RdF w' R B s' ∧ w.grownBy w' (some R)
def FYes (t : Tr) (r : List UInt8) (R B : Nat) (w : World) (e : Ending) (w' : World) : Prop :=
  ∃ s', bl s' = r ∧ e = .returned (.tuple #[.iface (nodeT t) (nodeP t), .bool true]) ∧ RdF w' R B s' ∧ w.grownBy w' (some R)
def FPost (o : Option (Tr × List UInt8)) (R B : Nat) (w : World) (e : Ending) (w' : World) : Prop :=
  match o with
  | none => FNo R B w e w'
  | some (t, r) => FYes t r R B w e w'

def ReadsTo (k : Nat) : Prop := ∀ (s : ByteArray) (w : World) (R B : Nat), RdF w R B s → (bl s).length ≤ k →
  Calls Tryz.prog 140 #[.pointer (some ⟨R, 0, none⟩)] w (FPost (prs k (bl s)) R B w)

theorem ReadsTo.no {k : Nat} (H : ReadsTo k) {s : ByteArray} {w : World} {R B : Nat} (h : RdF w R B s) (hk : (bl s).length ≤ k) (ho : prs k (bl s) = none) :
    Calls Tryz.prog 140 #[.pointer (some ⟨R, 0, none⟩)] w (FNo R B w) := by
  have := H s w R B h hk
  rw [ho] at this
  exact this
theorem ReadsTo.yes {k : Nat} (H : ReadsTo k) {s : ByteArray} {w : World} {R B : Nat} (h : RdF w R B s) (hk : (bl s).length ≤ k) {t : Tr} {r : List UInt8} (ho : prs k (bl s) = some (t, r)) :
    Calls Tryz.prog 140 #[.pointer (some ⟨R, 0, none⟩)] w (FYes t r R B w) := by
  have := H s w R B h hk
  rw [ho] at this
  exact this

theorem pair_no1 {k : Nat} (H : ReadsTo k) (s : ByteArray) (w : World) (R B : Nat) (h : RdF w R B s) (hk : (bl s).length ≤ k) (ho : prs k (bl s) = none) :
    Calls Tryz.prog 176 #[.pointer (some ⟨R, 0, none⟩)] w (FNo R B w) := by
  have c1 := H.no h hk ho
  clear H h hk ho
  go_enter Tryz.func176, Tryz.ntmps176
  go_wp2_with fail
  refine c1.mono ?_
  rintro e w1 ⟨v, s1, _, rfl, h1, g1⟩
  go_wp2_with fail
  go_ret2
  exact ⟨_, _, .inl rfl, rfl, h1, g1⟩

theorem pair_no2 {k : Nat} (H : ReadsTo k) (s : ByteArray) (w : World) (R B : Nat) (h : RdF w R B s) (hk : (bl s).length ≤ k) {x : Tr} (ho : prs k (bl s) = some (x, [])) :
    Calls Tryz.prog 176 #[.pointer (some ⟨R, 0, none⟩)] w (FNo R B w) := by
  have c1 := H.yes h hk ho
  clear H h hk ho
  go_enter Tryz.func176, Tryz.ntmps176
  go_wp2_with fail
  refine c1.mono ?_
  rintro e w1 ⟨s1, hs1, rfl, h1, g1⟩
  have c2 := next_no s1 w1 R B h1 hs1
  clear hs1 c1
  go_wp2_with fail
  refine c2.mono ?_
  rintro e w2 ⟨rfl, rfl⟩
  have hl := h1.look_empty
  have hc := h1.2.1
  go_wp2_with fail
  go_ret2
  exact ⟨_, _, .inl rfl, rfl, h1, g1⟩

theorem pair_no3 {k : Nat} (H : ReadsTo k) (s : ByteArray) (w : World) (R B : Nat) (h : RdF w R B s) (hk : (bl s).length ≤ k) {x : Tr} {d : UInt8} {r : List UInt8} (ho : prs k (bl s) = some (x, d :: r)) (hd : sgOf d = none) :
    Calls Tryz.prog 176 #[.pointer (some ⟨R, 0, none⟩)] w (FNo R B w) := by
  have c1 := H.yes h hk ho
  clear H h hk ho
  go_enter Tryz.func176, Tryz.ntmps176
  go_wp2_with fail
  refine c1.mono ?_
  rintro e w1 ⟨s1, hs1, rfl, h1, g1⟩
  have c2 := next_yes s1 w1 R B h1 d r hs1
  clear hs1 c1
  go_wp2_with fail
  refine c2.mono ?_
  rintro e w2 ⟨s2, hs2, rfl, h2, g2⟩
  have hl := h2.look_not hd
  have hc := h2.2.1
  have gg := grownBy_trans g1 g2
  clear hs2 c2 hd g1 g2
  go_wp2_with fail
  go_ret2
  exact ⟨_, _, .inl rfl, rfl, h2, gg⟩

theorem pair_no4 {k : Nat} (H : ReadsTo k) (s : ByteArray) (w : World) (R B : Nat) (h : RdF w R B s) (hk : (bl s).length ≤ k) {x : Tr} {g : Sg} {r : List UInt8} (ho : prs k (bl s) = some (x, g.byte :: r)) (ho2 : prs k r = none) :
    Calls Tryz.prog 176 #[.pointer (some ⟨R, 0, none⟩)] w (FNo R B w) := by
  have c1 := H.yes h hk ho
  have hlen := prs_lt ho
  clear h ho
  go_enter Tryz.func176, Tryz.ntmps176
  go_wp2_with fail
  refine c1.mono ?_
  rintro e w1 ⟨s1, hs1, rfl, h1, g1⟩
  have c2 := next_yes s1 w1 R B h1 g.byte r hs1
  clear hs1 c1
  go_wp2_with fail
  refine c2.mono ?_
  rintro e w2 ⟨s2, rfl, rfl, h2, g2⟩
  have hl := h2.look g
  have hc := h2.2.1
  have gg := grownBy_trans g1 g2
  have c3 := H.no h2 (by simp at hlen; omega) ho2
  clear c2 g1 g2 H ho2 hk hlen
  go_wp2_with fail
  refine c3.mono ?_
  rintro e w3 ⟨v, s3, _, rfl, h3, g3⟩
  go_wp2_with fail
  go_ret2
  exact ⟨_, _, .inl rfl, rfl, h3, grownBy_trans gg g3⟩

theorem pair_no5 {k : Nat} (H : ReadsTo k) (s : ByteArray) (w : World) (R B : Nat) (h : RdF w R B s) (hk : (bl s).length ≤ k) {x y : Tr} {g : Sg} {r : List UInt8} (ho : prs k (bl s) = some (x, g.byte :: r)) (ho2 : prs k r = some (y, [])) :
    Calls Tryz.prog 176 #[.pointer (some ⟨R, 0, none⟩)] w (FNo R B w) := by
  have c1 := H.yes h hk ho
  have hlen := prs_lt ho
  clear h ho
  go_enter Tryz.func176, Tryz.ntmps176
  go_wp2_with fail
  refine c1.mono ?_
  rintro e w1 ⟨s1, hs1, rfl, h1, g1⟩
  have c2 := next_yes s1 w1 R B h1 g.byte r hs1
  clear hs1 c1
  go_wp2_with fail
  refine c2.mono ?_
  rintro e w2 ⟨s2, rfl, rfl, h2, g2⟩
  have hl := h2.look g
  have hc := h2.2.1
  have gg := grownBy_trans g1 g2
  have c3 := H.yes h2 (by simp at hlen; omega) ho2
  clear c2 g1 g2 H ho2 hk hlen
  go_wp2_with fail
  refine c3.mono ?_
  rintro e w3 ⟨s3, hs3, rfl, h3, g3⟩
  have c4 := next_no s3 w3 R B h3 hs3
  clear hs3 c3
  go_wp2_with fail
  refine c4.mono ?_
  rintro e w4 ⟨rfl, rfl⟩
  go_wp2_with fail
  go_ret2
  exact ⟨_, _, .inl rfl, rfl, h3, grownBy_trans gg g3⟩

theorem pair_no6 {k : Nat} (H : ReadsTo k) (s : ByteArray) (w : World) (R B : Nat) (h : RdF w R B s) (hk : (bl s).length ≤ k) {x y : Tr} {g : Sg} {e : UInt8} {r q : List UInt8} (ho : prs k (bl s) = some (x, g.byte :: r)) (ho2 : prs k r = some (y, e :: q)) (he : (e == 41) = false) :
    Calls Tryz.prog 176 #[.pointer (some ⟨R, 0, none⟩)] w (FNo R B w) := by
  have c1 := H.yes h hk ho
  have hlen := prs_lt ho
  clear h ho
  go_enter Tryz.func176, Tryz.ntmps176
  go_wp2_with fail
  refine c1.mono ?_
  rintro e w1 ⟨s1, hs1, rfl, h1, g1⟩
  have c2 := next_yes s1 w1 R B h1 g.byte r hs1
  clear hs1 c1
  go_wp2_with fail
  refine c2.mono ?_
  rintro e w2 ⟨s2, rfl, rfl, h2, g2⟩
  have hl := h2.look g
  have hc := h2.2.1
  have gg := grownBy_trans g1 g2
  have c3 := H.yes h2 (by simp at hlen; omega) ho2
  clear c2 g1 g2 H ho2 hk hlen
  go_wp2_with fail
  refine c3.mono ?_
  rintro e w3 ⟨s3, hs3, rfl, h3, g3⟩
  have c4 := next_yes s3 w3 R B h3 _ q hs3
  clear hs3 c3
  go_wp2_with fail
  refine c4.mono ?_
  rintro e w4 ⟨s4, hs4, rfl, h4, g4⟩
  clear hs4 c4
  go_wp2_with fail
  go_ret2
  exact ⟨_, _, .inl rfl, rfl, h4, grownBy_trans (grownBy_trans gg g3) g4⟩

theorem pair_yes {k : Nat} (H : ReadsTo k) (s : ByteArray) (w : World) (R B : Nat) (h : RdF w R B s) (hk : (bl s).length ≤ k) {x y : Tr} {g : Sg} {r q : List UInt8} (ho : prs k (bl s) = some (x, g.byte :: r)) (ho2 : prs k r = some (y, 41 :: q)) :
    Calls Tryz.prog 176 #[.pointer (some ⟨R, 0, none⟩)] w (FYes (.bin g x y) q R B w) := by
  have c1 := H.yes h hk ho
  have hlen := prs_lt ho
  clear h ho
  go_enter Tryz.func176, Tryz.ntmps176
  go_wp2_with fail
  refine c1.mono ?_
  rintro e w1 ⟨s1, hs1, rfl, h1, g1⟩
  have c2 := next_yes s1 w1 R B h1 g.byte r hs1
  clear hs1 c1
  go_wp2_with fail
  refine c2.mono ?_
  rintro e w2 ⟨s2, rfl, rfl, h2, g2⟩
  have hl := h2.look g
  have hc := h2.2.1
  have gg := grownBy_trans g1 g2
  have c3 := H.yes h2 (by simp at hlen; omega) ho2
  clear c2 g1 g2 H ho2 hk hlen
  go_wp2_with fail
  refine c3.mono ?_
  rintro e w3 ⟨s3, hs3, rfl, h3, g3⟩
  have c4 := next_yes s3 w3 R B h3 _ q hs3
  clear hs3 c3
  go_wp2_with fail
  refine c4.mono ?_
  rintro e w4 ⟨s4, hs4, rfl, h4, g4⟩
  clear c4
  go_wp2_with fail
  go_ret2
  exact ⟨_, hs4, rfl, h4, grownBy_trans (grownBy_trans gg g3) g4⟩

end Go.Proofs.YtlnffpofbfigaaaGreatDoor
