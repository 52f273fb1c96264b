/-
  Joined out of the texts FRead, FSpec, FSpecV, FTree: what each holds is told at its head.
-/
import Derived.Test.YtlnffpofbfigaaaGreatDoorM377be3a7
import Derived.Test.YtlnffpofbfigaaaGreatDoorM2359aa93
import Derived.Outline
import Derived.Lib.Strings
import Derived.BigQuiet
import Derived.Deep.QuietTactic
import Derived.Deep.RegionHeld
import Derived.BigGuardPart
import Derived.WalkSpells

/-
  The reader of formulas of impl: next, formula, pair. A text of any length is read; what is found is what the plain parser finds.
-/
namespace Go.Proofs.YtlnffpofbfigaaaGreatDoor
open Go.RowKit Go.Maps Go.Joins

def bl (s : ByteArray) : List UInt8 := s.data.toList
theorem bl_size (s : ByteArray) : s.size = (bl s).length := Lib.size_eq s
theorem bl_mk {s : ByteArray} {l : List UInt8} (h : bl s = l) : s = ⟨l.toArray⟩ := by rw [← h]; rfl
theorem bl_inj {s u : ByteArray} (h : bl s = bl u) : s = u := by rw [bl_mk h]; rfl
theorem bl_head {s : ByteArray} {c : UInt8} {l : List UInt8} (h : bl s = c :: l) : s.extract 0 1 = ⟨#[c]⟩ := by
  rw [Lib.extract_eq]; show (⟨((bl s).drop 0 |>.take 1).toArray⟩ : ByteArray) = _; rw [h]; rfl
theorem bl_tail {s : ByteArray} {c : UInt8} {l : List UInt8} (h : bl s = c :: l) : bl (s.extract 1 s.size) = l := by
  have e := Lib.extract_data s 1 s.size
  show (s.extract 1 s.size).data.toList = l
  rw [e]; show ((bl s).drop 1).take (s.size - 1) = l
  rw [bl_size, h]; simp
theorem bl_empty {s : ByteArray} (h : bl s = []) : s.toList.isEmpty = true := by rw [ByteArray.toList_eq]; show (bl s).isEmpty = true; rw [h]; rfl
theorem bl_full {s : ByteArray} {c : UInt8} {l : List UInt8} (h : bl s = c :: l) : s.toList.isEmpty = false := by rw [ByteArray.toList_eq]; show (bl s).isEmpty = false; rw [h]; rfl

def Sg.fn : Sg → FuncId
  | .fol => 170
  | .plus => 171
  | .times => 172
  | .less => 173
  | .great => 174

def nodeT : Tr → TypeId
  | .lt _ => 183
  | .tru _ => 184
  | .neg _ => 186
  | .bin _ _ _ => 205

def nodeP : Tr → Value
  | .lt k => .int .i64 k.num
  | .tru b => .bool b
  | .neg x => .agg #[.iface (nodeT x) (nodeP x)]
  | .bin g x y => .agg #[.string ⟨#[g.byte]⟩, .func (.func g.fn) #[] #[], .iface (nodeT x) (nodeP x), .iface (nodeT y) (nodeP y)]

def IsNode (v : Value) : Prop := v = .nilIface ∨ ∃ T p, v = .iface T p

/-- Block R is a reader whose rest is s, over the map of signs in block B. -/
def RdF (w : World) (R B : Nat) (s : ByteArray) : Prop :=
  w.cell? ⟨R, 0, none⟩ = some (.string s) ∧ w.cell? ⟨R, 1, none⟩ = some (.map (some B)) ∧ w.frozen? ⟨R, 0, none⟩ = false ∧ w.ownsMap Tryz.prog 9 anyElem B 5 signsD ∧ B ≠ R

theorem RdF.set {w : World} {R B : Nat} {s u : ByteArray} (h : RdF w R B s) : RdF (w.setCell ⟨R, 0, none⟩ (.string u)) R B u := by
  obtain ⟨h1, h2, h3, h4, h5⟩ := h
  refine ⟨?_, ?_, ?_, h4.kept (grownBy_set w R 0 _) (by simpa using h5), h5⟩
  · rw [World.cell?_setCell_same _ _ _ h1]
  · rw [World.cell?_setCell_other _ _ _ _ (by simp)]; exact h2
  · rw [World.frozen?_setCell]; exact h3

def NextNo (w : World) (e : Ending) (w' : World) : Prop := e = .returned (.string ⟨#[]⟩) ∧ w = w'
def NextPost (c : UInt8) (l : List UInt8) (R B : Nat) (w : World) (e : Ending) (w' : World) : Prop :=
  ∃ s', bl s' = l ∧ e = .returned (.string ⟨#[c]⟩) ∧ RdF w' R B s' ∧ w.grownBy w' (some R)

theorem next_no (s : ByteArray) (w : World) (R B : Nat) (h : RdF w R B s) (hs : bl s = []) :
    Calls Tryz.prog 175 #[.pointer (some ⟨R, 0, none⟩)] w (NextNo w) := by
  obtain ⟨h1, _, _, _, _⟩ := h
  have he := bl_empty hs
  clear hs
  go_enter Tryz.func175, Tryz.ntmps175
  go_wp2
  go_ret
  exact ⟨rfl, rfl⟩

theorem next_yes (s : ByteArray) (w : World) (R B : Nat) (h : RdF w R B s) (c : UInt8) (l : List UInt8) (hs : bl s = c :: l) :
    Calls Tryz.prog 175 #[.pointer (some ⟨R, 0, none⟩)] w (NextPost c l R B w) := by
  have H := h
  obtain ⟨h1, _, h3, _, _⟩ := h
  have he := bl_full hs
  have hsz : 1 ≤ s.size := by rw [bl_size, hs]; simp
  have ht := Lib.hid (bl_tail hs)
  have hh := Lib.hid (bl_head hs)
  clear hs
  go_enter Tryz.func175, Tryz.ntmps175
  go_wp2
  go_ret
  exact ⟨_, ht.out, by rw [hh.out]; rfl, H.set, grownBy_set _ _ _ _⟩

theorem signs_at (g : Sg) : signsD.atKey (signK g.byte) (.held .nilFunc) = .held (.func (.func g.fn) #[] #[]) ∧ Maps.has signsD (signK g.byte) = true := by
  cases g
  · exact signs_fol
  · exact signs_plus
  · exact signs_times
  · exact signs_less
  · exact signs_great

theorem signs_not {kl : Lit} (h : ∀ g : Sg, kl ≠ signK g.byte) : signsD.atKey kl (.held .nilFunc) = .held .nilFunc ∧ Maps.has signsD kl = false := by
  unfold signsD
  have h1 : kl ≠ signK 62 := h .fol
  have h2 : kl ≠ signK 43 := h .plus
  have h3 : kl ≠ signK 42 := h .times
  have h4 : kl ≠ signK 38 := h .less
  have h5 : kl ≠ signK 124 := h .great
  rw [atKey_put_other h5, atKey_put_other h4, atKey_put_other h3, atKey_put_other h2, atKey_put_other h1,
    has_put_other h5, has_put_other h4, has_put_other h3, has_put_other h2, has_put_other h1]
  exact ⟨rfl, rfl⟩

/-- What is not found by name in a map that the call owns. -/
theorem look_no {P : Program} {w : World} {t k e : TypeId} {b n : Nat} {D : DataW Value} (h : w.ownsMap P k anyElem b n D) (K : Keyed P k) (ht : P.underlying t = some (.map k e)) {z : Value} (hz : (zeroValue e).run P w = .ok z w)
    {key : Value} {kl : Lit} (hkey : keyOf P k key = some kl) (hv : D.atKey kl (.held z) = .held z) (hh : Maps.has D kl = false) :
    (Instr.lookup t (.map (some b)) key true).run P w = .ok (.tuple #[z, .bool false]) w := by
  obtain ⟨u, ps, hrun, hu⟩ := h.look_ok K ht hz (zd := .held z) (zp := []) rfl hkey
  rw [hv] at hu
  rw [hh] at hrun
  simp [anyElem] at hu
  rw [hrun, hu.1]

theorem RdF.look {w : World} {R B : Nat} {s : ByteArray} (h : RdF w R B s) (g : Sg) :
    (Instr.lookup 151 (.map (some B)) (.string ⟨#[g.byte]⟩) true).run Tryz.prog w = .ok (.tuple #[.func (.func g.fn) #[] #[], .bool true]) w :=
  look_own h.2.2.2.1 keyedS Tryz.underlying151 (zeroSign _) (signK_of g.byte) (signs_at g).1 (signs_at g).2

theorem RdF.look_not {w : World} {R B : Nat} {s : ByteArray} (h : RdF w R B s) {d : UInt8} (hd : sgOf d = none) :
    (Instr.lookup 151 (.map (some B)) (.string ⟨#[d]⟩) true).run Tryz.prog w = .ok (.tuple #[.nilFunc, .bool false]) w := by
  have hk : ∀ g : Sg, signK d ≠ signK g.byte := by
    intro g e
    unfold signK at e
    have : d = g.byte := by simpa using e
    rw [this, sgOf_byte] at hd
    cases hd
  exact look_no h.2.2.2.1 keyedS Tryz.underlying151 (zeroSign _) (signK_of d) (signs_not hk).1 (signs_not hk).2

theorem RdF.look_empty {w : World} {R B : Nat} {s : ByteArray} (h : RdF w R B s) :
    (Instr.lookup 151 (.map (some B)) (.string ⟨#[]⟩) true).run Tryz.prog w = .ok (.tuple #[.nilFunc, .bool false]) w := by
  have hk : ∀ g : Sg, Lit.string [] ≠ signK g.byte := by
    intro g e
    unfold signK at e
    simp at e
  have hz : keyOf Tryz.prog 9 (.string ⟨#[]⟩) = some (Lit.string []) := WideMaps.keyOf_string_mk Tryz.underlying9 (by show (0 : Nat) ≤ maxLen; omega)
  exact look_no h.2.2.2.1 keyedS Tryz.underlying151 (zeroSign _) hz (signs_not hk).1 (signs_not hk).2

def FNo (R B : Nat) (w : World) (e : Ending) (w' : World) : Prop :=
  ∃ v s', IsNode v ∧ e = .returned (.tuple #[v, .bool false]) ∧ RdF w' R B s' ∧ w.grownBy w' (some R)
def FYes (t : Tr) (r : List UInt8) (R B : Nat) (w : World) (e : Ending) (w' : World) : Prop :=
  ∃ s', bl s' = r ∧ e = .returned (.tuple #[.iface (nodeT t) (nodeP t), .bool true]) ∧ RdF w' R B s' ∧ w.grownBy w' (some R)
def FPost (o : Option (Tr × List UInt8)) (R B : Nat) (w : World) (e : Ending) (w' : World) : Prop :=
  match o with
  | none => FNo R B w e w'
  | some (t, r) => FYes t r R B w e w'

def ReadsTo (k : Nat) : Prop := ∀ (s : ByteArray) (w : World) (R B : Nat), RdF w R B s → (bl s).length ≤ k →
  Calls Tryz.prog 140 #[.pointer (some ⟨R, 0, none⟩)] w (FPost (prs k (bl s)) R B w)

theorem ReadsTo.no {k : Nat} (H : ReadsTo k) {s : ByteArray} {w : World} {R B : Nat} (h : RdF w R B s) (hk : (bl s).length ≤ k) (ho : prs k (bl s) = none) :
    Calls Tryz.prog 140 #[.pointer (some ⟨R, 0, none⟩)] w (FNo R B w) := by
  have := H s w R B h hk
  rw [ho] at this
  exact this
theorem ReadsTo.yes {k : Nat} (H : ReadsTo k) {s : ByteArray} {w : World} {R B : Nat} (h : RdF w R B s) (hk : (bl s).length ≤ k) {t : Tr} {r : List UInt8} (ho : prs k (bl s) = some (t, r)) :
    Calls Tryz.prog 140 #[.pointer (some ⟨R, 0, none⟩)] w (FYes t r R B w) := by
  have := H s w R B h hk
  rw [ho] at this
  exact this

theorem pair_no1 {k : Nat} (H : ReadsTo k) (s : ByteArray) (w : World) (R B : Nat) (h : RdF w R B s) (hk : (bl s).length ≤ k) (ho : prs k (bl s) = none) :
    Calls Tryz.prog 176 #[.pointer (some ⟨R, 0, none⟩)] w (FNo R B w) := by
  have c1 := H.no h hk ho
  clear H h hk ho
  go_enter Tryz.func176, Tryz.ntmps176
  go_wp2_with fail
  refine c1.mono ?_
  rintro e w1 ⟨v, s1, _, rfl, h1, g1⟩
  go_wp2_with fail
  go_ret2
  exact ⟨_, _, .inl rfl, rfl, h1, g1⟩

theorem pair_no2 {k : Nat} (H : ReadsTo k) (s : ByteArray) (w : World) (R B : Nat) (h : RdF w R B s) (hk : (bl s).length ≤ k) {x : Tr} (ho : prs k (bl s) = some (x, [])) :
    Calls Tryz.prog 176 #[.pointer (some ⟨R, 0, none⟩)] w (FNo R B w) := by
  have c1 := H.yes h hk ho
  clear H h hk ho
  go_enter Tryz.func176, Tryz.ntmps176
  go_wp2_with fail
  refine c1.mono ?_
  rintro e w1 ⟨s1, hs1, rfl, h1, g1⟩
  have c2 := next_no s1 w1 R B h1 hs1
  clear hs1 c1
  go_wp2_with fail
  refine c2.mono ?_
  rintro e w2 ⟨rfl, rfl⟩
  have hl := h1.look_empty
  have hc := h1.2.1
  go_wp2_with fail
  go_ret2
  exact ⟨_, _, .inl rfl, rfl, h1, g1⟩

theorem pair_no3 {k : Nat} (H : ReadsTo k) (s : ByteArray) (w : World) (R B : Nat) (h : RdF w R B s) (hk : (bl s).length ≤ k) {x : Tr} {d : UInt8} {r : List UInt8} (ho : prs k (bl s) = some (x, d :: r)) (hd : sgOf d = none) :
    Calls Tryz.prog 176 #[.pointer (some ⟨R, 0, none⟩)] w (FNo R B w) := by
  have c1 := H.yes h hk ho
  clear H h hk ho
  go_enter Tryz.func176, Tryz.ntmps176
  go_wp2_with fail
  refine c1.mono ?_
  rintro e w1 ⟨s1, hs1, rfl, h1, g1⟩
  have c2 := next_yes s1 w1 R B h1 d r hs1
  clear hs1 c1
  go_wp2_with fail
  refine c2.mono ?_
  rintro e w2 ⟨s2, hs2, rfl, h2, g2⟩
  have hl := h2.look_not hd
  have hc := h2.2.1
  have gg := grownBy_trans g1 g2
  clear hs2 c2 hd g1 g2
  go_wp2_with fail
  go_ret2
  exact ⟨_, _, .inl rfl, rfl, h2, gg⟩

theorem pair_no4 {k : Nat} (H : ReadsTo k) (s : ByteArray) (w : World) (R B : Nat) (h : RdF w R B s) (hk : (bl s).length ≤ k) {x : Tr} {g : Sg} {r : List UInt8} (ho : prs k (bl s) = some (x, g.byte :: r)) (ho2 : prs k r = none) :
    Calls Tryz.prog 176 #[.pointer (some ⟨R, 0, none⟩)] w (FNo R B w) := by
  have c1 := H.yes h hk ho
  have hlen := prs_lt ho
  clear h ho
  go_enter Tryz.func176, Tryz.ntmps176
  go_wp2_with fail
  refine c1.mono ?_
  rintro e w1 ⟨s1, hs1, rfl, h1, g1⟩
  have c2 := next_yes s1 w1 R B h1 g.byte r hs1
  clear hs1 c1
  go_wp2_with fail
  refine c2.mono ?_
  rintro e w2 ⟨s2, rfl, rfl, h2, g2⟩
  have hl := h2.look g
  have hc := h2.2.1
  have gg := grownBy_trans g1 g2
  have c3 := H.no h2 (by simp at hlen; omega) ho2
  clear c2 g1 g2 H ho2 hk hlen
  go_wp2_with fail
  refine c3.mono ?_
  rintro e w3 ⟨v, s3, _, rfl, h3, g3⟩
  go_wp2_with fail
  go_ret2
  exact ⟨_, _, .inl rfl, rfl, h3, grownBy_trans gg g3⟩

theorem pair_no5 {k : Nat} (H : ReadsTo k) (s : ByteArray) (w : World) (R B : Nat) (h : RdF w R B s) (hk : (bl s).length ≤ k) {x y : Tr} {g : Sg} {r : List UInt8} (ho : prs k (bl s) = some (x, g.byte :: r)) (ho2 : prs k r = some (y, [])) :
    Calls Tryz.prog 176 #[.pointer (some ⟨R, 0, none⟩)] w (FNo R B w) := by
  have c1 := H.yes h hk ho
  have hlen := prs_lt ho
  clear h ho
  go_enter Tryz.func176, Tryz.ntmps176
  go_wp2_with fail
  refine c1.mono ?_
  rintro e w1 ⟨s1, hs1, rfl, h1, g1⟩
  have c2 := next_yes s1 w1 R B h1 g.byte r hs1
  clear hs1 c1
  go_wp2_with fail
  refine c2.mono ?_
  rintro e w2 ⟨s2, rfl, rfl, h2, g2⟩
  have hl := h2.look g
  have hc := h2.2.1
  have gg := grownBy_trans g1 g2
  have c3 := H.yes h2 (by simp at hlen; omega) ho2
  clear c2 g1 g2 H ho2 hk hlen
  go_wp2_with fail
  refine c3.mono ?_
  rintro e w3 ⟨s3, hs3, rfl, h3, g3⟩
  have c4 := next_no s3 w3 R B h3 hs3
  clear hs3 c3
  go_wp2_with fail
  refine c4.mono ?_
  rintro e w4 ⟨rfl, rfl⟩
  go_wp2_with fail
  go_ret2
  exact ⟨_, _, .inl rfl, rfl, h3, grownBy_trans gg g3⟩

theorem pair_no6 {k : Nat} (H : ReadsTo k) (s : ByteArray) (w : World) (R B : Nat) (h : RdF w R B s) (hk : (bl s).length ≤ k) {x y : Tr} {g : Sg} {e : UInt8} {r q : List UInt8} (ho : prs k (bl s) = some (x, g.byte :: r)) (ho2 : prs k r = some (y, e :: q)) (he : (e == 41) = false) :
    Calls Tryz.prog 176 #[.pointer (some ⟨R, 0, none⟩)] w (FNo R B w) := by
  have c1 := H.yes h hk ho
  have hlen := prs_lt ho
  clear h ho
  go_enter Tryz.func176, Tryz.ntmps176
  go_wp2_with fail
  refine c1.mono ?_
  rintro e w1 ⟨s1, hs1, rfl, h1, g1⟩
  have c2 := next_yes s1 w1 R B h1 g.byte r hs1
  clear hs1 c1
  go_wp2_with fail
  refine c2.mono ?_
  rintro e w2 ⟨s2, rfl, rfl, h2, g2⟩
  have hl := h2.look g
  have hc := h2.2.1
  have gg := grownBy_trans g1 g2
  have c3 := H.yes h2 (by simp at hlen; omega) ho2
  clear c2 g1 g2 H ho2 hk hlen
  go_wp2_with fail
  refine c3.mono ?_
  rintro e w3 ⟨s3, hs3, rfl, h3, g3⟩
  have c4 := next_yes s3 w3 R B h3 _ q hs3
  clear hs3 c3
  go_wp2_with fail
  refine c4.mono ?_
  rintro e w4 ⟨s4, hs4, rfl, h4, g4⟩
  clear hs4 c4
  go_wp2_with fail
  go_ret2
  exact ⟨_, _, .inl rfl, rfl, h4, grownBy_trans (grownBy_trans gg g3) g4⟩

theorem pair_yes {k : Nat} (H : ReadsTo k) (s : ByteArray) (w : World) (R B : Nat) (h : RdF w R B s) (hk : (bl s).length ≤ k) {x y : Tr} {g : Sg} {r q : List UInt8} (ho : prs k (bl s) = some (x, g.byte :: r)) (ho2 : prs k r = some (y, 41 :: q)) :
    Calls Tryz.prog 176 #[.pointer (some ⟨R, 0, none⟩)] w (FYes (.bin g x y) q R B w) := by
  have c1 := H.yes h hk ho
  have hlen := prs_lt ho
  clear h ho
  go_enter Tryz.func176, Tryz.ntmps176
  go_wp2_with fail
  refine c1.mono ?_
  rintro e w1 ⟨s1, hs1, rfl, h1, g1⟩
  have c2 := next_yes s1 w1 R B h1 g.byte r hs1
  clear hs1 c1
  go_wp2_with fail
  refine c2.mono ?_
  rintro e w2 ⟨s2, rfl, rfl, h2, g2⟩
  have hl := h2.look g
  have hc := h2.2.1
  have gg := grownBy_trans g1 g2
  have c3 := H.yes h2 (by simp at hlen; omega) ho2
  clear c2 g1 g2 H ho2 hk hlen
  go_wp2_with fail
  refine c3.mono ?_
  rintro e w3 ⟨s3, hs3, rfl, h3, g3⟩
  have c4 := next_yes s3 w3 R B h3 _ q hs3
  clear hs3 c3
  go_wp2_with fail
  refine c4.mono ?_
  rintro e w4 ⟨s4, hs4, rfl, h4, g4⟩
  clear c4
  go_wp2_with fail
  go_ret2
  exact ⟨_, hs4, rfl, h4, grownBy_trans (grownBy_trans gg g3) g4⟩

end Go.Proofs.YtlnffpofbfigaaaGreatDoor

/-
  The model's l4End and FormulaOk: where a formula ends is where the plain parser ends. Texts of any length.
-/
namespace Go.Proofs.YtlnffpofbfigaaaGreatDoor
open Go.RowKit

theorem drop_lt {l : List UInt8} {p : Nat} {c : UInt8} {r : List UInt8} (h : l.drop p = c :: r) : p < l.length := by
  have e := congrArg List.length h
  rw [List.length_drop] at e
  simp at e; omega
theorem drop_tail {l : List UInt8} {p : Nat} {c : UInt8} {r : List UInt8} (h : l.drop p = c :: r) : l.drop (p + 1) = r := by
  rw [← List.drop_drop, h]
  rfl
/-- What is left behind a formula, as a place of the text. -/
theorem drop_rest {l a r : List UInt8} {p m : Nat} (h : l.drop p = a ++ r) (hm : m + r.length = l.length) (hp : p ≤ l.length) : l.drop m = r := by
  have e := congrArg List.length h
  rw [List.length_drop, List.length_append] at e
  have hq : m = a.length + p := by omega
  rw [hq, Nat.add_comm, ← List.drop_drop, h]
  simp

theorem idx_run {s : ByteArray} {p : Nat} {c : UInt8} {r : List UInt8} (h : (bl s).drop p = c :: r) (w : World) :
    (Instr.index 9 (.string s) (.int .i64 (p : Int))).run Tryz.prog w = .ok (.int .u8 (c.toNat : Int)) w := by
  have hlt : p < s.size := by rw [bl_size]; exact drop_lt h
  rw [run_index_string (h := Tryz.underlying9), dif_pos ⟨by omega, by omega⟩]
  have hq : s[(p : Int).toNat]'(by omega) = c := by
    have e : s.data.toList[p]? = some c := by
      have := congrArg (fun x => x[0]?) h
      unfold bl at this
      simpa [List.getElem?_drop] using this
    simp only [Int.toNat_natCast]
    rw [List.getElem?_eq_getElem (by rw [← Lib.size_eq]; exact hlt)] at e
    exact Option.some.inj e
  rw [hq]

theorem u8_ne {c d : UInt8} (h : c ≠ d) {n : Int} (hn : (d.toNat : Int) = n) : ((c.toNat : Int) == n) = false := by
  rw [← hn]
  simp only [beq_eq_false_iff_ne, ne_eq, Int.natCast_inj]
  intro e
  exact h (UInt8.toNat_inj.1 e)

theorem u8_neq {c d : UInt8} (h : c ≠ d) {n : Int} (hn : (d.toNat : Int) = n) : ((c.toNat : Int) != n) = true := by
  unfold bne; rw [u8_ne h hn]; rfl

theorem sgOf_none {d : UInt8} (h : sgOf d = none) : d ≠ 62 ∧ d ≠ 43 ∧ d ≠ 42 ∧ d ≠ 38 ∧ d ≠ 124 := by
  refine ⟨?_, ?_, ?_, ?_, ?_⟩ <;> (rintro rfl; cases h)

/-- From place p on the text is r behind a formula that ends at place m. -/
def EndsAt (k : Nat) : Prop := ∀ (s : ByteArray) (p : Nat) (i : Int) (w : World), s.size ≤ 1048576 → i = (p : Int) → s.size ≤ p + k →
  Calls Tryz.prog 112 #[.string s, .int .i64 i] w fun e w' =>
    e = .returned (.int .i64 (match prs k ((bl s).drop p) with | none => -1 | some (_, r) => ((s.size : Int) - (r.length : Int)))) ∧ w = w'

theorem EndsAt.no {k : Nat} (H : EndsAt k) {s : ByteArray} {p : Nat} {i : Int} {w : World} (hs : s.size ≤ 1048576) (hi : i = (p : Int)) (hk : s.size ≤ p + k) (ho : prs k ((bl s).drop p) = none) :
    Calls Tryz.prog 112 #[.string s, .int .i64 i] w fun e w' => e = .returned (.int .i64 (-1)) ∧ w = w' := by
  have := H s p i w hs hi hk
  rw [ho] at this
  exact this
theorem EndsAt.yes {k : Nat} (H : EndsAt k) {s : ByteArray} {p : Nat} {i : Int} {w : World} (hs : s.size ≤ 1048576) (hi : i = (p : Int)) (hk : s.size ≤ p + k) {t : Tr} {r : List UInt8} (ho : prs k ((bl s).drop p) = some (t, r)) {m : Nat} (hm : m + r.length = s.size) :
    Calls Tryz.prog 112 #[.string s, .int .i64 i] w fun e w' => e = .returned (.int .i64 (m : Int)) ∧ w = w' := by
  have := H s p i w hs hi hk
  rw [ho] at this
  have e : (s.size : Int) - (r.length : Int) = (m : Int) := by omega
  simp only [e] at this
  exact this

theorem end_out (s : ByteArray) (p : Nat) (w : World) (h : s.size ≤ p) :
    Calls Tryz.prog 112 #[.string s, .int .i64 (p : Int)] w fun e w' => e = .returned (.int .i64 (-1)) ∧ w = w' := by
  go_enter Tryz.func112, Tryz.ntmps112
  go_wp2_with fail
  go_ret
  exact ⟨rfl, rfl⟩

theorem end_one (s : ByteArray) (p : Nat) (w : World) (hs : s.size ≤ 1048576) {c : UInt8} {r : List UInt8} (hc : c = 97 ∨ c = 98 ∨ c = 99 ∨ c = 48 ∨ c = 49) (h : (bl s).drop p = c :: r) :
    Calls Tryz.prog 112 #[.string s, .int .i64 (p : Int)] w fun e w' => e = .returned (.int .i64 ((p : Int) + 1)) ∧ w = w' := by
  have hlt : p < s.size := by rw [bl_size]; exact drop_lt h
  have hi := fun w => idx_run h w
  clear h
  rcases hc with rfl | rfl | rfl | rfl | rfl
  all_goals
    go_enter Tryz.func112, Tryz.ntmps112
    go_wp2_with fail
    go_ret
    exact ⟨rfl, rfl⟩

theorem end_neg_no {k : Nat} (H : EndsAt k) (s : ByteArray) (p : Nat) (w : World) (hs : s.size ≤ 1048576) (hk : s.size ≤ p + k + 1) {l : List UInt8} (h : (bl s).drop p = 33 :: l) (ho : prs k l = none) :
    Calls Tryz.prog 112 #[.string s, .int .i64 (p : Int)] w fun e w' => e = .returned (.int .i64 (-1)) ∧ w = w' := by
  have hlt : p < s.size := by rw [bl_size]; exact drop_lt h
  have hi := fun w => idx_run h w
  have c1 := H.no (i := (p : Int) + 1) (w := w) hs (by omega) (p := p + 1) (by omega) (by rw [drop_tail h]; exact ho)
  clear h H ho
  go_enter Tryz.func112, Tryz.ntmps112
  go_wp2_with fail
  refine c1.mono ?_
  rintro e w1 ⟨rfl, rfl⟩
  clear c1
  go_wp2_with fail
  go_ret
  exact ⟨rfl, rfl⟩

theorem end_neg_yes {k : Nat} (H : EndsAt k) (s : ByteArray) (p : Nat) (w : World) (hs : s.size ≤ 1048576) (hk : s.size ≤ p + k + 1) {l : List UInt8} (h : (bl s).drop p = 33 :: l) {t : Tr} {r : List UInt8} (ho : prs k l = some (t, r)) {m : Nat} (hm : m + r.length = s.size) :
    Calls Tryz.prog 112 #[.string s, .int .i64 (p : Int)] w fun e w' => e = .returned (.int .i64 (m : Int)) ∧ w = w' := by
  have hlt : p < s.size := by rw [bl_size]; exact drop_lt h
  have hi := fun w => idx_run h w
  have c1 := H.yes (i := (p : Int) + 1) (w := w) hs (by omega) (p := p + 1) (by omega) (by rw [drop_tail h]; exact ho) hm
  clear h H ho hm
  go_enter Tryz.func112, Tryz.ntmps112
  go_wp2_with fail
  refine c1.mono ?_
  rintro e w1 ⟨rfl, rfl⟩
  clear c1
  go_wp2_with fail
  go_ret
  exact ⟨rfl, rfl⟩

theorem end_other (s : ByteArray) (p : Nat) (w : World) {c : UInt8} {l : List UInt8} (h : (bl s).drop p = c :: l) (hc : PrsOther c) :
    Calls Tryz.prog 112 #[.string s, .int .i64 (p : Int)] w fun e w' => e = .returned (.int .i64 (-1)) ∧ w = w' := by
  have hlt : p < s.size := by rw [bl_size]; exact drop_lt h
  have hi := fun w => idx_run h w
  obtain ⟨n1, n2, n3, n4, n5, n6, n7⟩ := hc
  have e1 : ((c.toNat : Int) == 97) = false := u8_ne n1 (by decide)
  have e2 : ((c.toNat : Int) == 98) = false := u8_ne n2 (by decide)
  have e3 : ((c.toNat : Int) == 99) = false := u8_ne n3 (by decide)
  have e4 : ((c.toNat : Int) == 48) = false := u8_ne n4 (by decide)
  have e5 : ((c.toNat : Int) == 49) = false := u8_ne n5 (by decide)
  have e6 : ((c.toNat : Int) == 33) = false := u8_ne n6 (by decide)
  have e7 : ((c.toNat : Int) == 40) = false := u8_ne n7 (by decide)
  clear h n1 n2 n3 n4 n5 n6 n7
  go_enter Tryz.func112, Tryz.ntmps112
  go_wp2_with fail
  go_ret
  exact ⟨rfl, rfl⟩

theorem end_open1 {k : Nat} (H : EndsAt k) (s : ByteArray) (p : Nat) (w : World) (hs : s.size ≤ 1048576) (hk : s.size ≤ p + k + 1) {l : List UInt8} (h : (bl s).drop p = 40 :: l) (ho : prs k l = none) :
    Calls Tryz.prog 112 #[.string s, .int .i64 (p : Int)] w fun e w' => e = .returned (.int .i64 (-1)) ∧ w = w' := by
  have hlt : p < s.size := by rw [bl_size]; exact drop_lt h
  have hi := fun w => idx_run h w
  have c1 := H.no (i := (p : Int) + 1) (w := w) hs (by omega) (p := p + 1) (by omega) (by rw [drop_tail h]; exact ho)
  clear h H ho
  go_enter Tryz.func112, Tryz.ntmps112
  go_wp2_with fail
  refine c1.mono ?_
  rintro e w1 ⟨rfl, rfl⟩
  clear c1
  go_wp2_with fail
  go_ret
  exact ⟨rfl, rfl⟩

theorem end_open2 {k : Nat} (H : EndsAt k) (s : ByteArray) (p : Nat) (w : World) (hs : s.size ≤ 1048576) (hk : s.size ≤ p + k + 1) {l : List UInt8} (h : (bl s).drop p = 40 :: l) {x : Tr} (ho : prs k l = some (x, [])) :
    Calls Tryz.prog 112 #[.string s, .int .i64 (p : Int)] w fun e w' => e = .returned (.int .i64 (-1)) ∧ w = w' := by
  have hlt : p < s.size := by rw [bl_size]; exact drop_lt h
  have hi := fun w => idx_run h w
  have c1 := H.yes (i := (p : Int) + 1) (w := w) hs (by omega) (p := p + 1) (by omega) (by rw [drop_tail h]; exact ho) (m := s.size) (by simp)
  clear h H ho
  go_enter Tryz.func112, Tryz.ntmps112
  go_wp2_with fail
  refine c1.mono ?_
  rintro e w1 ⟨rfl, rfl⟩
  clear c1
  go_wp2_with fail
  go_ret
  exact ⟨rfl, rfl⟩

/-- Where a sign stands behind a first formula: its place. -/
theorem sign_place {s : ByteArray} {p k : Nat} {l : List UInt8} (h : (bl s).drop p = 40 :: l) {x : Tr} {r : List UInt8} (ho : prs k l = some (x, r)) :
    ∃ m : Nat, m + r.length = s.size ∧ (bl s).drop m = r ∧ p + 1 < m := by
  have hlt := drop_lt h
  have ht := drop_tail h
  have hx := prs_sound _ _ _ _ ho
  have hp := txt_pos x
  have e : (bl s).length - (p + 1) = x.txt.length + r.length := by rw [← List.length_drop, ht, hx, List.length_append]
  have hz := bl_size s
  refine ⟨s.size - r.length, by omega, ?_, by omega⟩
  exact drop_rest (p := p + 1) (ht.trans hx) (by omega) (by omega)

theorem end_open3 {k : Nat} (H : EndsAt k) (s : ByteArray) (p : Nat) (w : World) (hs : s.size ≤ 1048576) (hk : s.size ≤ p + k + 1) {l : List UInt8} (h : (bl s).drop p = 40 :: l) {x : Tr} {d : UInt8} {r : List UInt8} (ho : prs k l = some (x, d :: r)) (hd : sgOf d = none) :
    Calls Tryz.prog 112 #[.string s, .int .i64 (p : Int)] w fun e w' => e = .returned (.int .i64 (-1)) ∧ w = w' := by
  have hlt : p < s.size := by rw [bl_size]; exact drop_lt h
  obtain ⟨m, hm, hdm, hpm⟩ := sign_place h ho
  have hi := fun w => idx_run h w
  have hj := fun w => idx_run hdm w
  have c1 := H.yes (i := (p : Int) + 1) (w := w) hs (by omega) (p := p + 1) (by omega) (by rw [drop_tail h]; exact ho) hm
  have hmz : m < s.size := by simp at hm; omega
  obtain ⟨n1, n2, n3, n4, n5⟩ := sgOf_none hd
  have e1 : ((d.toNat : Int) != 62) = true := u8_neq n1 (by decide)
  have e2 : ((d.toNat : Int) != 43) = true := u8_neq n2 (by decide)
  have e3 : ((d.toNat : Int) != 42) = true := u8_neq n3 (by decide)
  have e4 : ((d.toNat : Int) != 38) = true := u8_neq n4 (by decide)
  have e5 : ((d.toNat : Int) != 124) = true := u8_neq n5 (by decide)
  clear h H ho hd hdm hm n1 n2 n3 n4 n5
  go_enter Tryz.func112, Tryz.ntmps112
  go_wp2_with fail
  refine c1.mono ?_
  rintro e w1 ⟨rfl, rfl⟩
  clear c1
  go_wp2_with fail
  go_ret
  exact ⟨rfl, rfl⟩

theorem end_open4 {k : Nat} (H : EndsAt k) (s : ByteArray) (p : Nat) (w : World) (hs : s.size ≤ 1048576) (hk : s.size ≤ p + k + 1) {l : List UInt8} (h : (bl s).drop p = 40 :: l) {x : Tr} {g : Sg} {r : List UInt8} (ho : prs k l = some (x, g.byte :: r)) (ho2 : prs k r = none) :
    Calls Tryz.prog 112 #[.string s, .int .i64 (p : Int)] w fun e w' => e = .returned (.int .i64 (-1)) ∧ w = w' := by
  have hlt : p < s.size := by rw [bl_size]; exact drop_lt h
  obtain ⟨m, hm, hdm, hpm⟩ := sign_place h ho
  have hi := fun w => idx_run h w
  have hj := fun w => idx_run hdm w
  have c1 := H.yes (i := (p : Int) + 1) (w := w) hs (by omega) (p := p + 1) (by omega) (by rw [drop_tail h]; exact ho) hm
  have hmz : m < s.size := by simp at hm; omega
  have c2 := H.no (i := (m : Int) + 1) (w := w) hs (by omega) (p := m + 1) (by omega) (by rw [drop_tail hdm]; exact ho2)
  clear h H ho ho2 hdm hm
  cases g
  all_goals
    unfold Sg.byte at hj
    go_enter Tryz.func112, Tryz.ntmps112
    go_wp2_with fail
    refine c1.mono ?_
    rintro e w1 ⟨rfl, rfl⟩
    go_wp2_with fail
    refine c2.mono ?_
    rintro e w1 ⟨rfl, rfl⟩
    go_wp2_with fail
    go_ret
    exact ⟨rfl, rfl⟩

theorem end_open5 {k : Nat} (H : EndsAt k) (s : ByteArray) (p : Nat) (w : World) (hs : s.size ≤ 1048576) (hk : s.size ≤ p + k + 1) {l : List UInt8} (h : (bl s).drop p = 40 :: l) {x y : Tr} {g : Sg} {r : List UInt8} (ho : prs k l = some (x, g.byte :: r)) (ho2 : prs k r = some (y, [])) :
    Calls Tryz.prog 112 #[.string s, .int .i64 (p : Int)] w fun e w' => e = .returned (.int .i64 (-1)) ∧ w = w' := by
  have hlt : p < s.size := by rw [bl_size]; exact drop_lt h
  obtain ⟨m, hm, hdm, hpm⟩ := sign_place h ho
  have hi := fun w => idx_run h w
  have hj := fun w => idx_run hdm w
  have c1 := H.yes (i := (p : Int) + 1) (w := w) hs (by omega) (p := p + 1) (by omega) (by rw [drop_tail h]; exact ho) hm
  have hmz : m < s.size := by simp at hm; omega
  have c2 := H.yes (i := (m : Int) + 1) (w := w) hs (by omega) (p := m + 1) (by omega) (by rw [drop_tail hdm]; exact ho2) (m := s.size) (by simp)
  clear h H ho ho2 hdm hm
  cases g
  all_goals
    unfold Sg.byte at hj
    go_enter Tryz.func112, Tryz.ntmps112
    go_wp2_with fail
    refine c1.mono ?_
    rintro e w1 ⟨rfl, rfl⟩
    go_wp2_with fail
    refine c2.mono ?_
    rintro e w1 ⟨rfl, rfl⟩
    go_wp2_with fail
    go_ret
    exact ⟨rfl, rfl⟩

theorem close_place {s : ByteArray} {m k : Nat} {d : UInt8} {r : List UInt8} (h : (bl s).drop m = d :: r) {y : Tr} {q : List UInt8} (ho : prs k r = some (y, q)) :
    ∃ n : Nat, n + q.length = s.size ∧ (bl s).drop n = q ∧ m + 1 < n := by
  have hlt := drop_lt h
  have ht := drop_tail h
  have hx := prs_sound _ _ _ _ ho
  have hp := txt_pos y
  have e : (bl s).length - (m + 1) = y.txt.length + q.length := by rw [← List.length_drop, ht, hx, List.length_append]
  have hz := bl_size s
  refine ⟨s.size - q.length, by omega, ?_, by omega⟩
  exact drop_rest (p := m + 1) (ht.trans hx) (by omega) (by omega)

theorem end_open6 {k : Nat} (H : EndsAt k) (s : ByteArray) (p : Nat) (w : World) (hs : s.size ≤ 1048576) (hk : s.size ≤ p + k + 1) {l : List UInt8} (h : (bl s).drop p = 40 :: l) {x y : Tr} {g : Sg} {c : UInt8} {r q : List UInt8} (ho : prs k l = some (x, g.byte :: r)) (ho2 : prs k r = some (y, c :: q)) (hc : c ≠ 41) :
    Calls Tryz.prog 112 #[.string s, .int .i64 (p : Int)] w fun e w' => e = .returned (.int .i64 (-1)) ∧ w = w' := by
  have hlt : p < s.size := by rw [bl_size]; exact drop_lt h
  obtain ⟨m, hm, hdm, hpm⟩ := sign_place h ho
  obtain ⟨n, hn, hdn, hmn⟩ := close_place hdm ho2
  have hi := fun w => idx_run h w
  have hj := fun w => idx_run hdm w
  have hl := fun w => idx_run hdn w
  have c1 := H.yes (i := (p : Int) + 1) (w := w) hs (by omega) (p := p + 1) (by omega) (by rw [drop_tail h]; exact ho) hm
  have hmz : m < s.size := by simp at hm; omega
  have hnz : n < s.size := by simp at hn; omega
  have c2 := H.yes (i := (m : Int) + 1) (w := w) hs (by omega) (p := m + 1) (by omega) (by rw [drop_tail hdm]; exact ho2) hn
  have e1 : ((c.toNat : Int) != 41) = true := u8_neq hc (by decide)
  clear h H ho ho2 hdm hm hdn hn hc
  cases g
  all_goals
    unfold Sg.byte at hj
    go_enter Tryz.func112, Tryz.ntmps112
    go_wp2_with fail
    refine c1.mono ?_
    rintro e w1 ⟨rfl, rfl⟩
    go_wp2_with fail
    refine c2.mono ?_
    rintro e w1 ⟨rfl, rfl⟩
    go_wp2_with fail
    all_goals first | (exfalso; omega) | (go_ret; exact ⟨rfl, rfl⟩)

theorem end_open7 {k : Nat} (H : EndsAt k) (s : ByteArray) (p : Nat) (w : World) (hs : s.size ≤ 1048576) (hk : s.size ≤ p + k + 1) {l : List UInt8} (h : (bl s).drop p = 40 :: l) {x y : Tr} {g : Sg} {r q : List UInt8} (ho : prs k l = some (x, g.byte :: r)) (ho2 : prs k r = some (y, 41 :: q)) {n : Nat} (hn : n + 1 + q.length = s.size) :
    Calls Tryz.prog 112 #[.string s, .int .i64 (p : Int)] w fun e w' => e = .returned (.int .i64 ((n : Int) + 1)) ∧ w = w' := by
  have hlt : p < s.size := by rw [bl_size]; exact drop_lt h
  obtain ⟨m, hm, hdm, hpm⟩ := sign_place h ho
  obtain ⟨n', hn', hdn, hmn⟩ := close_place hdm ho2
  obtain rfl : n' = n := by simp at hn'; omega
  have hi := fun w => idx_run h w
  have hj := fun w => idx_run hdm w
  have hl := fun w => idx_run hdn w
  have c1 := H.yes (i := (p : Int) + 1) (w := w) hs (by omega) (p := p + 1) (by omega) (by rw [drop_tail h]; exact ho) hm
  have hmz : m < s.size := by simp at hm; omega
  have hnz : n' < s.size := by omega
  have c2 := H.yes (i := (m : Int) + 1) (w := w) hs (by omega) (p := m + 1) (by omega) (by rw [drop_tail hdm]; exact ho2) hn'
  clear h H ho ho2 hdm hm hdn hn hn'
  cases g
  all_goals
    unfold Sg.byte at hj
    go_enter Tryz.func112, Tryz.ntmps112
    go_wp2_with fail
    refine c1.mono ?_
    rintro e w1 ⟨rfl, rfl⟩
    go_wp2_with fail
    refine c2.mono ?_
    rintro e w1 ⟨rfl, rfl⟩
    go_wp2_with fail
    all_goals first | (exfalso; omega) | (go_ret; exact ⟨rfl, rfl⟩)

theorem ends_at : ∀ k : Nat, EndsAt k := by
  intro k
  induction k with
  | zero =>
    intro s p i w hs hi hk
    subst hi
    exact end_out s p w (by omega)
  | succ k ih =>
    intro s p i w hs hi hk
    subst hi
    have hz := bl_size s
    cases h : (bl s).drop p with
    | nil =>
      have e := congrArg List.length h
      rw [List.length_drop] at e
      rw [prs_nil]
      exact end_out s p w (by simp at e; omega)
    | cons c l =>
      have hl : p + 1 + l.length = s.size := by
        have e := congrArg List.length h
        rw [List.length_drop] at e
        simp at e
        have := drop_lt h
        omega
      have ho1 : ∀ q : Int, q = (p : Int) + 1 → ((s.size : Int) - (l.length : Int)) = q := by intro q hq; omega
      rcases byte_cases c with rfl | rfl | rfl | rfl | rfl | rfl | rfl | ho
      · rw [prs_a]; simp only [ho1 _ rfl]; exact end_one s p w hs (.inl rfl) h
      · rw [prs_b]; simp only [ho1 _ rfl]; exact end_one s p w hs (.inr (.inl rfl)) h
      · rw [prs_c]; simp only [ho1 _ rfl]; exact end_one s p w hs (.inr (.inr (.inl rfl))) h
      · rw [prs_0]; simp only [ho1 _ rfl]; exact end_one s p w hs (.inr (.inr (.inr (.inl rfl)))) h
      · rw [prs_1]; simp only [ho1 _ rfl]; exact end_one s p w hs (.inr (.inr (.inr (.inr rfl)))) h
      · rw [prs_n]
        cases ho : prs k l with
        | none => exact end_neg_no ih s p w hs (by omega) h ho
        | some x =>
          obtain ⟨t, r⟩ := x
          have hr := prs_lt ho
          have e : ((s.size : Int) - (r.length : Int)) = ((s.size - r.length : Nat) : Int) := by omega
          simp only [e]
          exact end_neg_yes ih s p w hs (by omega) h ho (by omega)
      · rw [prs_p]
        unfold prp
        cases ho : prs k l with
        | none => exact end_open1 ih s p w hs (by omega) h ho
        | some x =>
          obtain ⟨x, r⟩ := x
          have hr := prs_lt ho
          cases r with
          | nil => exact end_open2 ih s p w hs (by omega) h ho
          | cons d r =>
            cases hd : sgOf d with
            | none => simp only [hd]; exact end_open3 ih s p w hs (by omega) h ho hd
            | some g =>
              have hdg := sgOf_some hd
              subst hdg
              simp only [hd]
              cases ho2 : prs k r with
              | none => exact end_open4 ih s p w hs (by omega) h ho ho2
              | some y =>
                obtain ⟨y, q⟩ := y
                have hq := prs_lt ho2
                cases q with
                | nil => exact end_open5 ih s p w hs (by omega) h ho ho2
                | cons c q =>
                  by_cases hc : c = 41
                  · subst hc
                    have e : ((s.size : Int) - (q.length : Int)) = ((s.size - q.length - 1 : Nat) : Int) + 1 := by simp at hq hr; omega
                    simp only [if_true, e]
                    exact end_open7 ih s p w hs (by omega) h ho ho2 (by simp at hq hr; omega)
                  · simp only [if_neg hc]
                    exact end_open6 ih s p w hs (by omega) h ho ho2 hc
      · rw [prs_o k l ho]; exact end_other s p w h ho

theorem sform_any (s : ByteArray) (w : World) :
    Calls Tryz.prog 74 #[.string s] w fun e w' => e = .returned (.bool (isF (bl s))) ∧ w = w' := by
  have hz := bl_size s
  by_cases hl : s.size ≤ 60
  · have d60 : decide ((s.size : Int) ≤ 60) = true := decide_eq_true (by omega)
    by_cases h0 : s.size = 0
    · have hs : bl s = [] := List.length_eq_zero_iff.1 (by omega)
      rw [hs]
      have e1 : isF [] = false := rfl
      have d0 : decide (0 < s.size) = false := decide_eq_false (by omega)
      rw [e1]
      clear hs e1 hz h0
      go_enter Tryz.func74, Tryz.ntmps74
      go_wp2_with fail
      go_ret
      exact ⟨rfl, rfl⟩
    · have d0 : decide (0 < s.size) = true := decide_eq_true (by omega)
      have hc := ends_at s.size s 0 0 w (by omega) rfl (by omega)
      have hf : isF (bl s) = match prs s.size (bl s) with | none => false | some (_, r) => decide (r = []) := by
        unfold isF
        rw [fOf_short (by omega)]
        unfold par
        rw [← hz]
        cases prs s.size (bl s) with
        | none => rfl
        | some x =>
          obtain ⟨t, r⟩ := x
          cases r <;> rfl
      rw [hf]
      rw [List.drop_zero] at hc
      clear hf
      cases ho : prs s.size (bl s) with
      | none =>
        rw [ho] at hc
        have hb : ((-1 : Int) == (s.size : Int)) = false := beq_eq_false_iff_ne.2 (by omega)
        clear ho hz
        go_enter Tryz.func74, Tryz.ntmps74
        go_wp2_with fail
        refine hc.mono ?_
        rintro e w1 ⟨rfl, rfl⟩
        go_wp2_with fail
        go_ret
        exact ⟨rfl, rfl⟩
      | some x =>
        obtain ⟨t, r⟩ := x
        rw [ho] at hc
        have hr := prs_lt ho
        cases r with
        | nil =>
          have e : ((s.size : Int) - (([] : List UInt8).length : Int)) = (s.size : Int) := by simp
          simp only [e] at hc
          clear e ho hz hr
          go_enter Tryz.func74, Tryz.ntmps74
          go_wp2_with fail
          refine hc.mono ?_
          rintro e w1 ⟨rfl, rfl⟩
          go_wp2_with fail
          go_ret
          exact ⟨rfl, rfl⟩
        | cons c r =>
          obtain ⟨m, hm⟩ : ∃ m : Nat, m + (c :: r).length = s.size := ⟨s.size - (c :: r).length, by omega⟩
          have e : ((s.size : Int) - ((c :: r).length : Int)) = (m : Int) := by omega
          simp only [e] at hc
          have hb : (m == s.size) = false := beq_eq_false_iff_ne.2 (by simp at hm; omega)
          have hb2 : ((m : Int) == (s.size : Int)) = false := beq_eq_false_iff_ne.2 (by simp at hm; omega)
          show Calls Tryz.prog 74 #[.string s] w fun e w' => e = .returned (.bool false) ∧ w = w'
          clear e ho hz hr hm
          go_enter Tryz.func74, Tryz.ntmps74
          go_wp2_with fail
          refine hc.mono ?_
          rintro e w1 ⟨rfl, rfl⟩
          go_wp2_with fail
          go_ret
          exact ⟨rfl, rfl⟩
  · have e1 : isF (bl s) = false := isF_f (fOf_long (by omega))
    have d0 : decide ((s.size : Int) ≤ 60) = false := decide_eq_false (by omega)
    rw [e1]
    clear e1 hz
    go_enter Tryz.func74, Tryz.ntmps74
    go_wp2_with fail
    go_ret
    exact ⟨rfl, rfl⟩

end Go.Proofs.YtlnffpofbfigaaaGreatDoor

/-
  The model's ValueAt: l4Value by induction on the tree whose text it is given. No condition.
-/
namespace Go.Proofs.YtlnffpofbfigaaaGreatDoor
open Go.RowKit

theorem idx0_run {s : ByteArray} {c : UInt8} {r : List UInt8} (h : bl s = c :: r) (w : World) :
    (Instr.index 9 (.string s) (.int .i64 0)).run Tryz.prog w = .ok (.int .u8 (c.toNat : Int)) w := idx_run (p := 0) h w

theorem bl_extract (s : ByteArray) (a b : Nat) : bl (s.extract a b) = ((bl s).drop a).take (b - a) := Lib.extract_data s a b

/-- The text of a pair: its parts, and where its sign stands. -/
theorem bin_parts {s : ByteArray} {g : Sg} {x y : Tr} (h : bl s = (Tr.bin g x y).txt) :
    ∃ m : Nat, m = 1 + x.txt.length ∧ s.size = m + 1 + y.txt.length + 1 ∧ (bl s).drop 1 = x.txt ++ (g.byte :: (y.txt ++ [41])) ∧ (bl s).drop m = g.byte :: (y.txt ++ [41]) ∧
      bl (s.extract 1 m) = x.txt ∧ bl (s.extract (m + 1) (s.size - 1)) = y.txt ∧ m + (g.byte :: (y.txt ++ [41])).length = s.size ∧ 1 ≤ x.txt.length ∧ 1 ≤ y.txt.length := by
  have hx := txt_pos x
  have hy := txt_pos y
  have hz : s.size = 1 + x.txt.length + 1 + y.txt.length + 1 := by rw [bl_size, h, bin_len]; omega
  have h1 : (bl s).drop 1 = x.txt ++ (g.byte :: (y.txt ++ [41])) := by rw [h]; rfl
  have hm : (bl s).drop (1 + x.txt.length) = g.byte :: (y.txt ++ [41]) := by rw [← List.drop_drop, h1]; simp
  refine ⟨1 + x.txt.length, rfl, hz, h1, hm, ?_, ?_, ?_, hx, hy⟩
  · rw [bl_extract, h1, Nat.add_sub_cancel_left]; simp
  · rw [bl_extract, drop_tail hm, hz]
    have : 1 + x.txt.length + 1 + y.txt.length + 1 - 1 - (1 + x.txt.length + 1) = y.txt.length := by omega
    rw [this]; simp
  · simp; omega

theorem bin_end {s : ByteArray} {g : Sg} {x y : Tr} (h : bl s = (Tr.bin g x y).txt) (hs : s.size ≤ 1048576) {m : Nat} (hm : m = 1 + x.txt.length) (w : World) :
    Calls Tryz.prog 112 #[.string s, .int .i64 1] w fun e w' => e = .returned (.int .i64 (m : Int)) ∧ w = w' := by
  obtain ⟨m', hm', hz, h1, h2, _, _, h5, _⟩ := bin_parts h
  obtain rfl : m' = m := by omega
  exact (ends_at s.size).yes (p := 1) (i := 1) hs rfl (by omega) (t := x) (r := g.byte :: (y.txt ++ [41])) (by rw [h1]; exact prs_full x _ _ (by omega)) h5

def SvOk (n a b c : Int) (t : Tr) : Prop := ∀ (s : ByteArray) (w : World), bl s = t.txt → s.size ≤ 1048576 →
  Calls Tryz.prog 111 #[.int .i64 n, .string s, .int .i64 a, .int .i64 b, .int .i64 c] w fun e w' => e = .returned (.int .i64 (t.val n a b c)) ∧ w = w'

theorem sv_lt (n a b c : Int) (k : Lr) : SvOk n a b c (.lt k) := by
  intro s w h hs
  have hi := fun w => idx0_run (c := k.byte) (r := []) h w
  have hz : 1 ≤ s.size := by rw [bl_size, h]; exact txt_pos _
  clear h
  cases k
  all_goals
    unfold Lr.byte at hi
    go_enter Tryz.func111, Tryz.ntmps111
    go_wp2_with fail
    go_ret
    exact ⟨rfl, rfl⟩

theorem sv_tru (n a b c : Int) (k : Bool) : SvOk n a b c (.tru k) := by
  intro s w h hs
  have hi := fun w => idx0_run (c := if k then 49 else 48) (r := []) h w
  have hz : 1 ≤ s.size := by rw [bl_size, h]; exact txt_pos _
  clear h
  cases k
  all_goals
    simp only [if_true, Bool.false_eq_true, if_false] at hi
    go_enter Tryz.func111, Tryz.ntmps111
    go_wp2_with fail
    go_ret
    exact ⟨rfl, rfl⟩

theorem sv_neg {n a b c : Int} {x : Tr} (hx : vokB n (x.val n a b c) = true) (ih : SvOk n a b c x) : SvOk n a b c (.neg x) := by
  intro s w h hs
  have hi := fun w => idx0_run (c := 33) (r := x.txt) h w
  have hz : 1 ≤ s.size := by rw [bl_size, h]; exact txt_pos _
  have ht := bl_tail (c := 33) (l := x.txt) h
  have c1 := ih (s.extract 1 s.size) w ht (by simp; omega)
  have hv := Lib.hid (notW_t hx)
  have k := vokB_of hx
  have e : Hid ((Tr.neg x).val n a b c = notW n (x.val n a b c)) := Lib.hid rfl
  generalize x.val n a b c = u at *
  generalize (Tr.neg x).val n a b c = z at *
  clear h ht ih hx
  go_enter Tryz.func111, Tryz.ntmps111
  go_wp2_with fail
  refine c1.mono ?_
  rintro e w1 ⟨rfl, rfl⟩
  clear c1
  go_wp2_with fail
  go_ret
  exact ⟨by rw [e.out, hv.out]; rfl, rfl⟩

theorem sv_fol {n a b c : Int} {x y : Tr} (hx : vokB n (x.val n a b c) = true) (hy : vokB n (y.val n a b c) = true) (ihx : SvOk n a b c x) (ihy : SvOk n a b c y) : SvOk n a b c (.bin .fol x y) := by
  intro s w h hs
  obtain ⟨m, hm, hz, _, hd, ex, ey, _, px, py⟩ := bin_parts h
  have hi := fun w => idx0_run (c := 40) h w
  have hj := fun w => idx_run hd w
  have c0 := bin_end h hs hm w
  have c1 := ihx (s.extract 1 m) w ex (by simp; omega)
  have c2 := ihy (s.extract (m + 1) (s.size - 1)) w ey (by simp; omega)
  have k1 := vokB_of hx
  have k2 := vokB_of hy
  have ht := twoB_mk hx hy
  have e : Hid ((Tr.bin .fol x y).val n a b c = folW n (x.val n a b c) (y.val n a b c)) := Lib.hid rfl
  have q1 : 1 ≤ m := by omega
  have q2 : m + 1 ≤ s.size - 1 := by omega
  have q3 : m < s.size := by omega
  unfold Sg.byte at hj
  generalize x.val n a b c = u at *
  generalize y.val n a b c = v at *
  generalize (Tr.bin .fol x y).val n a b c = z at *
  clear h ex ey ihx ihy hx hy hd hm hz px py
  by_cases hc : n - u + v ≤ n
  · have hv := Lib.hid (folW_t ht hc)
    clear ht
    go_enter Tryz.func111, Tryz.ntmps111
    go_wp2_with fail
    refine c0.mono ?_
    rintro e w1 ⟨rfl, rfl⟩
    clear c0
    go_wp2_with fail
    refine c1.mono ?_
    rintro e w1 ⟨rfl, rfl⟩
    clear c1
    go_wp2_with fail
    refine c2.mono ?_
    rintro e w1 ⟨rfl, rfl⟩
    clear c2
    go_wp2_with fail
    all_goals
      go_ret
      exact ⟨by rw [e.out, hv.out]; first | rfl | (refine congrArg (fun z : Int => Ending.returned (Value.int .i64 z)) ?_; omega), rfl⟩
  · have hv := Lib.hid (folW_e ht hc)
    clear ht
    go_enter Tryz.func111, Tryz.ntmps111
    go_wp2_with fail
    refine c0.mono ?_
    rintro e w1 ⟨rfl, rfl⟩
    clear c0
    go_wp2_with fail
    refine c1.mono ?_
    rintro e w1 ⟨rfl, rfl⟩
    clear c1
    go_wp2_with fail
    refine c2.mono ?_
    rintro e w1 ⟨rfl, rfl⟩
    clear c2
    go_wp2_with fail
    all_goals
      go_ret
      exact ⟨by rw [e.out, hv.out]; first | rfl | (refine congrArg (fun z : Int => Ending.returned (Value.int .i64 z)) ?_; omega), rfl⟩

theorem sv_plus {n a b c : Int} {x y : Tr} (hx : vokB n (x.val n a b c) = true) (hy : vokB n (y.val n a b c) = true) (ihx : SvOk n a b c x) (ihy : SvOk n a b c y) : SvOk n a b c (.bin .plus x y) := by
  intro s w h hs
  obtain ⟨m, hm, hz, _, hd, ex, ey, _, px, py⟩ := bin_parts h
  have hi := fun w => idx0_run (c := 40) h w
  have hj := fun w => idx_run hd w
  have c0 := bin_end h hs hm w
  have c1 := ihx (s.extract 1 m) w ex (by simp; omega)
  have c2 := ihy (s.extract (m + 1) (s.size - 1)) w ey (by simp; omega)
  have k1 := vokB_of hx
  have k2 := vokB_of hy
  have ht := twoB_mk hx hy
  have e : Hid ((Tr.bin .plus x y).val n a b c = plusW n (x.val n a b c) (y.val n a b c)) := Lib.hid rfl
  have q1 : 1 ≤ m := by omega
  have q2 : m + 1 ≤ s.size - 1 := by omega
  have q3 : m < s.size := by omega
  unfold Sg.byte at hj
  generalize x.val n a b c = u at *
  generalize y.val n a b c = v at *
  generalize (Tr.bin .plus x y).val n a b c = z at *
  clear h ex ey ihx ihy hx hy hd hm hz px py
  by_cases hc : u + v ≤ n
  · have hv := Lib.hid (plusW_t ht hc)
    clear ht
    go_enter Tryz.func111, Tryz.ntmps111
    go_wp2_with fail
    refine c0.mono ?_
    rintro e w1 ⟨rfl, rfl⟩
    clear c0
    go_wp2_with fail
    refine c1.mono ?_
    rintro e w1 ⟨rfl, rfl⟩
    clear c1
    go_wp2_with fail
    refine c2.mono ?_
    rintro e w1 ⟨rfl, rfl⟩
    clear c2
    go_wp2_with fail
    all_goals
      go_ret
      exact ⟨by rw [e.out, hv.out]; first | rfl | (refine congrArg (fun z : Int => Ending.returned (Value.int .i64 z)) ?_; omega), rfl⟩
  · have hv := Lib.hid (plusW_e ht hc)
    clear ht
    go_enter Tryz.func111, Tryz.ntmps111
    go_wp2_with fail
    refine c0.mono ?_
    rintro e w1 ⟨rfl, rfl⟩
    clear c0
    go_wp2_with fail
    refine c1.mono ?_
    rintro e w1 ⟨rfl, rfl⟩
    clear c1
    go_wp2_with fail
    refine c2.mono ?_
    rintro e w1 ⟨rfl, rfl⟩
    clear c2
    go_wp2_with fail
    all_goals
      go_ret
      exact ⟨by rw [e.out, hv.out]; first | rfl | (refine congrArg (fun z : Int => Ending.returned (Value.int .i64 z)) ?_; omega), rfl⟩

theorem sv_times {n a b c : Int} {x y : Tr} (hx : vokB n (x.val n a b c) = true) (hy : vokB n (y.val n a b c) = true) (ihx : SvOk n a b c x) (ihy : SvOk n a b c y) : SvOk n a b c (.bin .times x y) := by
  intro s w h hs
  obtain ⟨m, hm, hz, _, hd, ex, ey, _, px, py⟩ := bin_parts h
  have hi := fun w => idx0_run (c := 40) h w
  have hj := fun w => idx_run hd w
  have c0 := bin_end h hs hm w
  have c1 := ihx (s.extract 1 m) w ex (by simp; omega)
  have c2 := ihy (s.extract (m + 1) (s.size - 1)) w ey (by simp; omega)
  have k1 := vokB_of hx
  have k2 := vokB_of hy
  have ht := twoB_mk hx hy
  have e : Hid ((Tr.bin .times x y).val n a b c = timesW n (x.val n a b c) (y.val n a b c)) := Lib.hid rfl
  have q1 : 1 ≤ m := by omega
  have q2 : m + 1 ≤ s.size - 1 := by omega
  have q3 : m < s.size := by omega
  unfold Sg.byte at hj
  generalize x.val n a b c = u at *
  generalize y.val n a b c = v at *
  generalize (Tr.bin .times x y).val n a b c = z at *
  clear h ex ey ihx ihy hx hy hd hm hz px py
  by_cases hc : 0 ≤ u + v - n
  · have hv := Lib.hid (timesW_t ht hc)
    clear ht
    go_enter Tryz.func111, Tryz.ntmps111
    go_wp2_with fail
    refine c0.mono ?_
    rintro e w1 ⟨rfl, rfl⟩
    clear c0
    go_wp2_with fail
    refine c1.mono ?_
    rintro e w1 ⟨rfl, rfl⟩
    clear c1
    go_wp2_with fail
    refine c2.mono ?_
    rintro e w1 ⟨rfl, rfl⟩
    clear c2
    go_wp2_with fail
    all_goals
      go_ret
      exact ⟨by rw [e.out, hv.out]; first | rfl | (refine congrArg (fun z : Int => Ending.returned (Value.int .i64 z)) ?_; omega), rfl⟩
  · have hv := Lib.hid (timesW_e ht hc)
    clear ht
    go_enter Tryz.func111, Tryz.ntmps111
    go_wp2_with fail
    refine c0.mono ?_
    rintro e w1 ⟨rfl, rfl⟩
    clear c0
    go_wp2_with fail
    refine c1.mono ?_
    rintro e w1 ⟨rfl, rfl⟩
    clear c1
    go_wp2_with fail
    refine c2.mono ?_
    rintro e w1 ⟨rfl, rfl⟩
    clear c2
    go_wp2_with fail
    all_goals
      go_ret
      exact ⟨by rw [e.out, hv.out]; first | rfl | (refine congrArg (fun z : Int => Ending.returned (Value.int .i64 z)) ?_; omega), rfl⟩

theorem sv_less {n a b c : Int} {x y : Tr} (hx : vokB n (x.val n a b c) = true) (hy : vokB n (y.val n a b c) = true) (ihx : SvOk n a b c x) (ihy : SvOk n a b c y) : SvOk n a b c (.bin .less x y) := by
  intro s w h hs
  obtain ⟨m, hm, hz, _, hd, ex, ey, _, px, py⟩ := bin_parts h
  have hi := fun w => idx0_run (c := 40) h w
  have hj := fun w => idx_run hd w
  have c0 := bin_end h hs hm w
  have c1 := ihx (s.extract 1 m) w ex (by simp; omega)
  have c2 := ihy (s.extract (m + 1) (s.size - 1)) w ey (by simp; omega)
  have k1 := vokB_of hx
  have k2 := vokB_of hy
  have ht := twoB_mk hx hy
  have e : Hid ((Tr.bin .less x y).val n a b c = lessW n (x.val n a b c) (y.val n a b c)) := Lib.hid rfl
  have q1 : 1 ≤ m := by omega
  have q2 : m + 1 ≤ s.size - 1 := by omega
  have q3 : m < s.size := by omega
  unfold Sg.byte at hj
  generalize x.val n a b c = u at *
  generalize y.val n a b c = v at *
  generalize (Tr.bin .less x y).val n a b c = z at *
  clear h ex ey ihx ihy hx hy hd hm hz px py
  by_cases hc : u ≤ v
  · have hv := Lib.hid (lessW_t ht hc)
    clear ht
    go_enter Tryz.func111, Tryz.ntmps111
    go_wp2_with fail
    refine c0.mono ?_
    rintro e w1 ⟨rfl, rfl⟩
    clear c0
    go_wp2_with fail
    refine c1.mono ?_
    rintro e w1 ⟨rfl, rfl⟩
    clear c1
    go_wp2_with fail
    refine c2.mono ?_
    rintro e w1 ⟨rfl, rfl⟩
    clear c2
    go_wp2_with fail
    all_goals
      go_ret
      exact ⟨by rw [e.out, hv.out]; first | rfl | (refine congrArg (fun z : Int => Ending.returned (Value.int .i64 z)) ?_; omega), rfl⟩
  · have hv := Lib.hid (lessW_e ht hc)
    clear ht
    go_enter Tryz.func111, Tryz.ntmps111
    go_wp2_with fail
    refine c0.mono ?_
    rintro e w1 ⟨rfl, rfl⟩
    clear c0
    go_wp2_with fail
    refine c1.mono ?_
    rintro e w1 ⟨rfl, rfl⟩
    clear c1
    go_wp2_with fail
    refine c2.mono ?_
    rintro e w1 ⟨rfl, rfl⟩
    clear c2
    go_wp2_with fail
    all_goals
      go_ret
      exact ⟨by rw [e.out, hv.out]; first | rfl | (refine congrArg (fun z : Int => Ending.returned (Value.int .i64 z)) ?_; omega), rfl⟩

theorem sv_great {n a b c : Int} {x y : Tr} (hx : vokB n (x.val n a b c) = true) (hy : vokB n (y.val n a b c) = true) (ihx : SvOk n a b c x) (ihy : SvOk n a b c y) : SvOk n a b c (.bin .great x y) := by
  intro s w h hs
  obtain ⟨m, hm, hz, _, hd, ex, ey, _, px, py⟩ := bin_parts h
  have hi := fun w => idx0_run (c := 40) h w
  have hj := fun w => idx_run hd w
  have c0 := bin_end h hs hm w
  have c1 := ihx (s.extract 1 m) w ex (by simp; omega)
  have c2 := ihy (s.extract (m + 1) (s.size - 1)) w ey (by simp; omega)
  have k1 := vokB_of hx
  have k2 := vokB_of hy
  have ht := twoB_mk hx hy
  have e : Hid ((Tr.bin .great x y).val n a b c = greatW n (x.val n a b c) (y.val n a b c)) := Lib.hid rfl
  have q1 : 1 ≤ m := by omega
  have q2 : m + 1 ≤ s.size - 1 := by omega
  have q3 : m < s.size := by omega
  unfold Sg.byte at hj
  generalize x.val n a b c = u at *
  generalize y.val n a b c = v at *
  generalize (Tr.bin .great x y).val n a b c = z at *
  clear h ex ey ihx ihy hx hy hd hm hz px py
  by_cases hc : u ≤ v
  · have hv := Lib.hid (greatW_t ht hc)
    clear ht
    go_enter Tryz.func111, Tryz.ntmps111
    go_wp2_with fail
    refine c0.mono ?_
    rintro e w1 ⟨rfl, rfl⟩
    clear c0
    go_wp2_with fail
    refine c1.mono ?_
    rintro e w1 ⟨rfl, rfl⟩
    clear c1
    go_wp2_with fail
    refine c2.mono ?_
    rintro e w1 ⟨rfl, rfl⟩
    clear c2
    go_wp2_with fail
    all_goals
      go_ret
      exact ⟨by rw [e.out, hv.out]; first | rfl | (refine congrArg (fun z : Int => Ending.returned (Value.int .i64 z)) ?_; omega), rfl⟩
  · have hv := Lib.hid (greatW_e ht hc)
    clear ht
    go_enter Tryz.func111, Tryz.ntmps111
    go_wp2_with fail
    refine c0.mono ?_
    rintro e w1 ⟨rfl, rfl⟩
    clear c0
    go_wp2_with fail
    refine c1.mono ?_
    rintro e w1 ⟨rfl, rfl⟩
    clear c1
    go_wp2_with fail
    refine c2.mono ?_
    rintro e w1 ⟨rfl, rfl⟩
    clear c2
    go_wp2_with fail
    all_goals
      go_ret
      exact ⟨by rw [e.out, hv.out]; first | rfl | (refine congrArg (fun z : Int => Ending.returned (Value.int .i64 z)) ?_; omega), rfl⟩

theorem sv_all {n a b c : Int} (h : thrB n a b c = true) : ∀ t : Tr, SvOk n a b c t := by
  intro t
  induction t with
  | lt k => exact sv_lt n a b c k
  | tru k => exact sv_tru n a b c k
  | neg x ih => exact sv_neg (val_ok h x) ih
  | bin g x y ihx ihy =>
    cases g
    · exact sv_fol (val_ok h x) (val_ok h y) ihx ihy
    · exact sv_plus (val_ok h x) (val_ok h y) ihx ihy
    · exact sv_times (val_ok h x) (val_ok h y) ihx ihy
    · exact sv_less (val_ok h x) (val_ok h y) ihx ihy
    · exact sv_great (val_ok h x) (val_ok h y) ihx ihy

theorem svalue_any (n : Int) (s : ByteArray) (a b c : Int) (w : World) :
    Calls Tryz.prog 77 #[.int .i64 n, .string s, .int .i64 a, .int .i64 b, .int .i64 c] w fun e w' => e = .returned (.int .i64 (valI n (bl s) a b c)) ∧ w = w' := by
  have cf := sform_any s w
  have ct := two_any n a b w
  have cv := svok_any n c w
  cases h : fOf (bl s) with
  | none =>
    rw [isF_f h] at cf
    rw [valI_n h]
    clear h ct cv
    go_enter Tryz.func77, Tryz.ntmps77
    go_wp2_with fail
    refine cf.mono ?_
    rintro e w1 ⟨rfl, rfl⟩
    go_wp2_with fail
    go_ret
    exact ⟨rfl, rfl⟩
  | some t =>
    rw [isF_t h] at cf
    cases h3 : thrB n a b c
    · rw [valI_f h3]
      rcases thrB_no h3 with h1 | ⟨h1, h2⟩ | ⟨h1, h2, h3⟩
      · have e2 : twoB n a b = false := by unfold twoB; rw [h1]; rfl
        rw [e2] at ct
        clear h h3 cv h1 e2
        go_enter Tryz.func77, Tryz.ntmps77
        go_wp2_with fail
        refine cf.mono ?_
        rintro e w1 ⟨rfl, rfl⟩
        go_wp2_with fail
        refine ct.mono ?_
        rintro e w1 ⟨rfl, rfl⟩
        go_wp2_with fail
        go_ret
        exact ⟨rfl, rfl⟩
      · have e2 : twoB n a b = false := by unfold twoB; rw [h1, h2]; rfl
        rw [e2] at ct
        clear h h3 cv h1 h2 e2
        go_enter Tryz.func77, Tryz.ntmps77
        go_wp2_with fail
        refine cf.mono ?_
        rintro e w1 ⟨rfl, rfl⟩
        go_wp2_with fail
        refine ct.mono ?_
        rintro e w1 ⟨rfl, rfl⟩
        go_wp2_with fail
        go_ret
        exact ⟨rfl, rfl⟩
      · rw [twoB_mk h1 h2] at ct
        rw [h3] at cv
        clear h h3 h1 h2
        go_enter Tryz.func77, Tryz.ntmps77
        go_wp2_with fail
        refine cf.mono ?_
        rintro e w1 ⟨rfl, rfl⟩
        go_wp2_with fail
        refine ct.mono ?_
        rintro e w1 ⟨rfl, rfl⟩
        go_wp2_with fail
        refine cv.mono ?_
        rintro e w1 ⟨rfl, rfl⟩
        go_wp2_with fail
        go_ret
        exact ⟨rfl, rfl⟩
    · obtain ⟨h1, h2, h4⟩ := thrB_of h3
      obtain ⟨ht, hl⟩ := fOf_some h
      have c5 := sv_all h3 t s w ht (by rw [bl_size, ht]; omega)
      rw [valI_t h h3]
      rw [twoB_mk h1 h2] at ct
      rw [h4] at cv
      clear h h3 h1 h2 h4 ht hl
      go_enter Tryz.func77, Tryz.ntmps77
      go_wp2_with fail
      refine cf.mono ?_
      rintro e w1 ⟨rfl, rfl⟩
      go_wp2_with fail
      refine ct.mono ?_
      rintro e w1 ⟨rfl, rfl⟩
      go_wp2_with fail
      refine cv.mono ?_
      rintro e w1 ⟨rfl, rfl⟩
      go_wp2_with fail
      refine c5.mono ?_
      rintro e w1 ⟨rfl, rfl⟩
      go_wp2_with fail
      go_ret
      exact ⟨rfl, rfl⟩

end Go.Proofs.YtlnffpofbfigaaaGreatDoor

/-
  impl: formula finds what the plain parser finds; treeOf; FormulaOk. No condition.
-/
namespace Go.Proofs.YtlnffpofbfigaaaGreatDoor
open Go.RowKit Go.Maps Go.Joins

theorem FNo.post {R B : Nat} {w w' : World} {e : Ending} (h : FNo R B w e w') {o : Option (Tr × List UInt8)} (ho : o = none) : FPost o R B w e w' := by rw [ho]; exact h
theorem FYes.post {t : Tr} {r : List UInt8} {R B : Nat} {w w' : World} {e : Ending} (h : FYes t r R B w e w') {o : Option (Tr × List UInt8)} (ho : o = some (t, r)) : FPost o R B w e w' := by rw [ho]; exact h

theorem pair_of {k : Nat} (H : ReadsTo k) (s : ByteArray) (w : World) (R B : Nat) (h : RdF w R B s) (hk : (bl s).length ≤ k) :
    Calls Tryz.prog 176 #[.pointer (some ⟨R, 0, none⟩)] w (FPost (prp (prs k) (bl s)) R B w) := by
  cases ho : prs k (bl s) with
  | none => exact (pair_no1 H s w R B h hk ho).mono fun e w' hp => hp.post (by unfold prp; rw [ho])
  | some p =>
    obtain ⟨x, r0⟩ := p
    cases r0 with
    | nil => exact (pair_no2 H s w R B h hk ho).mono fun e w' hp => hp.post (by unfold prp; rw [ho])
    | cons d r =>
      cases hd : sgOf d with
      | none => exact (pair_no3 H s w R B h hk ho hd).mono fun e w' hp => hp.post (by unfold prp; rw [ho]; simp only [hd])
      | some g =>
        have hdg := sgOf_some hd
        subst hdg
        cases ho2 : prs k r with
        | none => exact (pair_no4 H s w R B h hk ho ho2).mono fun e w' hp => hp.post (by unfold prp; rw [ho]; simp only [hd, ho2])
        | some p2 =>
          obtain ⟨y, q0⟩ := p2
          cases q0 with
          | nil => exact (pair_no5 H s w R B h hk ho ho2).mono fun e w' hp => hp.post (by unfold prp; rw [ho]; simp only [hd, ho2])
          | cons c q =>
            by_cases he : c = 41
            · subst he
              exact (pair_yes H s w R B h hk ho ho2).mono fun e w' hp => hp.post (by unfold prp; rw [ho]; simp only [hd, ho2, if_true])
            · exact (pair_no6 H s w R B h hk ho ho2 (by simpa using he)).mono fun e w' hp => hp.post (by unfold prp; rw [ho]; simp only [hd, ho2, if_neg he])

theorem formula_end (s : ByteArray) (w : World) (R B : Nat) (h : RdF w R B s) (hs : bl s = []) :
    Calls Tryz.prog 140 #[.pointer (some ⟨R, 0, none⟩)] w (FNo R B w) := by
  have c1 := next_no s w R B h hs
  clear hs
  go_enter Tryz.func140, Tryz.ntmps140
  go_wp2_with fail
  refine c1.mono ?_
  rintro e w1 ⟨rfl, rfl⟩
  go_wp2_with fail
  go_ret2
  exact ⟨_, _, .inl rfl, rfl, h, grownBy_refl _ _⟩

theorem formula_lt (x : Lr) (l : List UInt8) (s : ByteArray) (w : World) (R B : Nat) (h : RdF w R B s) (hs : bl s = x.byte :: l) :
    Calls Tryz.prog 140 #[.pointer (some ⟨R, 0, none⟩)] w (FYes (.lt x) l R B w) := by
  have c1 := next_yes s w R B h _ _ hs
  clear hs
  cases x
  all_goals
    go_enter Tryz.func140, Tryz.ntmps140
    go_wp2_with fail
    refine c1.mono ?_
    rintro e w1 ⟨s1, hs1, rfl, h1, g1⟩
    clear c1
    unfold Lr.byte
    go_wp2_with fail
    go_region
    all_goals
      go_wp2
      go_ret2
      exact ⟨_, hs1, rfl, h1, grownBy_drew g1⟩

theorem formula_tru (b : Bool) (l : List UInt8) (s : ByteArray) (w : World) (R B : Nat) (h : RdF w R B s) (hs : bl s = (if b then 49 else 48) :: l) :
    Calls Tryz.prog 140 #[.pointer (some ⟨R, 0, none⟩)] w (FYes (.tru b) l R B w) := by
  have c1 := next_yes s w R B h _ _ hs
  clear hs
  cases b
  all_goals
    go_enter Tryz.func140, Tryz.ntmps140
    go_wp2_with fail
    refine c1.mono ?_
    rintro e w1 ⟨s1, hs1, rfl, h1, g1⟩
    clear c1
    simp only [if_true, Bool.false_eq_true, if_false]
    go_wp2_with fail
    go_ret2
    exact ⟨_, hs1, rfl, h1, g1⟩

theorem formula_neg_yes {k : Nat} (H : ReadsTo k) (l : List UInt8) (s : ByteArray) (w : World) (R B : Nat) (h : RdF w R B s) (hs : bl s = 33 :: l) (hk : l.length ≤ k) {t : Tr} {r : List UInt8} (ho : prs k l = some (t, r)) :
    Calls Tryz.prog 140 #[.pointer (some ⟨R, 0, none⟩)] w (FYes (.neg t) r R B w) := by
  have c1 := next_yes s w R B h _ _ hs
  clear hs
  go_enter Tryz.func140, Tryz.ntmps140
  go_wp2_with fail
  refine c1.mono ?_
  rintro e w1 ⟨s1, rfl, rfl, h1, g1⟩
  have c2 := H.yes h1 hk ho
  clear c1 ho H hk
  go_wp2_with fail
  refine c2.mono ?_
  rintro e w2 ⟨s2, hs2, rfl, h2, g2⟩
  clear c2
  go_wp2_with fail
  go_ret2
  exact ⟨_, hs2, rfl, h2, grownBy_trans g1 g2⟩

theorem formula_neg_no {k : Nat} (H : ReadsTo k) (l : List UInt8) (s : ByteArray) (w : World) (R B : Nat) (h : RdF w R B s) (hs : bl s = 33 :: l) (hk : l.length ≤ k) (ho : prs k l = none) :
    Calls Tryz.prog 140 #[.pointer (some ⟨R, 0, none⟩)] w (FNo R B w) := by
  have c1 := next_yes s w R B h _ _ hs
  clear hs
  go_enter Tryz.func140, Tryz.ntmps140
  go_wp2_with fail
  refine c1.mono ?_
  rintro e w1 ⟨s1, rfl, rfl, h1, g1⟩
  have c2 := H.no h1 hk ho
  clear c1 ho H hk
  go_wp2_with fail
  refine c2.mono ?_
  rintro e w2 ⟨v, s2, hv, rfl, h2, g2⟩
  clear c2
  rcases hv with rfl | ⟨T, p, rfl⟩
  all_goals
    go_wp2_with fail
    go_ret2
    exact ⟨_, _, .inr ⟨_, _, rfl⟩, rfl, h2, grownBy_trans g1 g2⟩

theorem formula_open {k : Nat} (H : ReadsTo k) (l : List UInt8) (s : ByteArray) (w : World) (R B : Nat) (h : RdF w R B s) (hs : bl s = 40 :: l) (hk : l.length ≤ k) :
    Calls Tryz.prog 140 #[.pointer (some ⟨R, 0, none⟩)] w (FPost (prp (prs k) l) R B w) := by
  have c1 := next_yes s w R B h _ _ hs
  clear hs
  generalize ho : prp (prs k) l = o
  cases o with
  | none =>
    go_enter Tryz.func140, Tryz.ntmps140
    go_wp2_with fail
    refine c1.mono ?_
    rintro e w1 ⟨s1, rfl, rfl, h1, g1⟩
    have c2 := pair_of H s1 w1 R B h1 hk
    rw [ho] at c2
    clear c1 ho H hk
    go_wp2_with fail
    refine c2.mono ?_
    rintro e w2 ⟨v, s2, hv, rfl, h2, g2⟩
    clear c2
    go_wp2_with fail
    go_ret2
    exact ⟨_, _, hv, rfl, h2, grownBy_trans g1 g2⟩
  | some p =>
    obtain ⟨t, r⟩ := p
    go_enter Tryz.func140, Tryz.ntmps140
    go_wp2_with fail
    refine c1.mono ?_
    rintro e w1 ⟨s1, rfl, rfl, h1, g1⟩
    have c2 := pair_of H s1 w1 R B h1 hk
    rw [ho] at c2
    clear c1 ho H hk
    go_wp2_with fail
    refine c2.mono ?_
    rintro e w2 ⟨s2, hs2, rfl, h2, g2⟩
    clear c2
    go_wp2_with fail
    go_ret2
    exact ⟨_, hs2, rfl, h2, grownBy_trans g1 g2⟩

theorem formula_other (c : UInt8) (l : List UInt8) (s : ByteArray) (w : World) (R B : Nat) (h : RdF w R B s) (hs : bl s = c :: l) (hc : PrsOther c) :
    Calls Tryz.prog 140 #[.pointer (some ⟨R, 0, none⟩)] w (FNo R B w) := by
  have c1 := next_yes s w R B h _ _ hs
  clear hs
  obtain ⟨n1, n2, n3, n4, n5, n6, n7⟩ := hc
  have e1 : (c == 97) = false := by simpa using n1
  have e2 : (c == 98) = false := by simpa using n2
  have e3 : (c == 99) = false := by simpa using n3
  have e4 : (c == 48) = false := by simpa using n4
  have e5 : (c == 49) = false := by simpa using n5
  have e6 : (c == 33) = false := by simpa using n6
  have e7 : (c == 40) = false := by simpa using n7
  clear n1 n2 n3 n4 n5 n6 n7
  go_enter Tryz.func140, Tryz.ntmps140
  go_wp2_with fail
  refine c1.mono ?_
  rintro e w1 ⟨s1, hs1, rfl, h1, g1⟩
  clear c1 hs1
  go_wp2_with fail
  go_ret2
  exact ⟨_, _, .inl rfl, rfl, h1, g1⟩

theorem reads_to : ∀ k : Nat, ReadsTo k := by
  intro k
  induction k with
  | zero =>
    intro s w R B h hk
    have hs : bl s = [] := List.length_eq_zero_iff.1 (by omega)
    rw [hs]
    exact (formula_end s w R B h hs).mono fun e w' hp => hp.post rfl
  | succ k ih =>
    intro s w R B h hk
    cases hs : bl s with
    | nil => exact (formula_end s w R B h hs).mono fun e w' hp => hp.post (prs_nil _)
    | cons c l =>
      rw [hs] at hk
      have hk' : l.length ≤ k := by simp at hk; omega
      rcases byte_cases c with rfl | rfl | rfl | rfl | rfl | rfl | rfl | ho
      · exact (formula_lt .la l s w R B h hs).mono fun e w' hp => hp.post rfl
      · exact (formula_lt .lb l s w R B h hs).mono fun e w' hp => hp.post rfl
      · exact (formula_lt .lc l s w R B h hs).mono fun e w' hp => hp.post rfl
      · exact (formula_tru false l s w R B h hs).mono fun e w' hp => hp.post rfl
      · exact (formula_tru true l s w R B h hs).mono fun e w' hp => hp.post rfl
      · cases ho : prs k l with
        | none => exact (formula_neg_no ih l s w R B h hs hk' ho).mono fun e w' hp => hp.post (by rw [prs_n, ho])
        | some p =>
          obtain ⟨t, r⟩ := p
          exact (formula_neg_yes ih l s w R B h hs hk' ho).mono fun e w' hp => hp.post (by rw [prs_n, ho])
      · rw [prs_p]; exact formula_open ih l s w R B h hs hk'
      · exact (formula_other c l s w R B h hs ho).mono fun e w' hp => hp.post (prs_o k l ho)

def TreeNo (w : World) (e : Ending) (w' : World) : Prop := ∃ v, IsNode v ∧ e = .returned (.tuple #[v, .bool false]) ∧ w.grownBy w' none
def TreeYes (t : Tr) (w : World) (e : Ending) (w' : World) : Prop := e = .returned (.tuple #[.iface (nodeT t) (nodeP t), .bool true]) ∧ w.grownBy w' none

theorem RdF.made {w w1 : World} {s : ByteArray} (ho : w1.ownsMap Tryz.prog 9 anyElem w.heap.size 5 signsD) (t : TypeId) :
    RdF (w1.alloc (.cells #[.string s, .map (some w.heap.size)] t)) w1.heap.size w.heap.size s := by
  have hlt := ho.lt
  obtain ⟨c0, c1, f0, _⟩ := cells_new (heap_alloc_new w1 (.cells #[.string s, .map (some w.heap.size)] t))
  exact ⟨c0, c1, f0, ho.alloc _, by omega⟩

theorem tree_long (s : ByteArray) (w : World) (hs : 60 < (bl s).length) :
    Calls Tryz.prog 105 #[.string s] w (TreeNo w) := by
  have hsz : 60 < s.size := by rw [bl_size]; exact hs
  have hd : decide ((60 : Int) < (s.size : Int)) = true := by simp; omega
  go_enter Tryz.func105, Tryz.ntmps105
  go_wp2_with fail
  go_ret2
  exact ⟨_, .inl rfl, rfl, grownBy_refl _ _⟩

theorem tree_no1 (s : ByteArray) (w : World) (hs : (bl s).length ≤ 60) (ho : prs (bl s).length (bl s) = none) :
    Calls Tryz.prog 105 #[.string s] w (TreeNo w) := by
  have hsz : s.size ≤ 60 := by rw [bl_size]; exact hs
  have hd : decide ((60 : Int) < (s.size : Int)) = false := by simp; omega
  go_enter Tryz.func105, Tryz.ntmps105
  go_wp2_with fail
  refine (signs_any _).mono ?_
  rintro e w1 ⟨rfl, hm, g1⟩
  have hr := RdF.made (s := s) hm 154
  have c2 := (reads_to _).no hr (Nat.le_refl _) ho
  clear hm ho
  go_wp2_with fail
  refine c2.mono ?_
  rintro e w2 ⟨v, s2, hv, rfl, h2, g2⟩
  clear c2 hr
  go_wp2_with fail
  go_region
  all_goals
    go_wp2
    go_ret2
    exact ⟨_, hv, rfl, grownBy_drew (grownBy_trans g1 (grownBy_own (World.grownBy_alloc _ _ _) g2))⟩

theorem tree_no2 (s : ByteArray) (w : World) (hs : (bl s).length ≤ 60) {t : Tr} {c : UInt8} {r : List UInt8} (ho : prs (bl s).length (bl s) = some (t, c :: r)) :
    Calls Tryz.prog 105 #[.string s] w (TreeNo w) := by
  have hsz : s.size ≤ 60 := by rw [bl_size]; exact hs
  have hd : decide ((60 : Int) < (s.size : Int)) = false := by simp; omega
  go_enter Tryz.func105, Tryz.ntmps105
  go_wp2_with fail
  refine (signs_any _).mono ?_
  rintro e w1 ⟨rfl, hm, g1⟩
  have hr := RdF.made (s := s) hm 154
  have c2 := (reads_to _).yes hr (Nat.le_refl _) ho
  clear hm ho
  go_wp2_with fail
  refine c2.mono ?_
  rintro e w2 ⟨s2, hs2, rfl, h2, g2⟩
  have he := bl_full hs2
  have hc := h2.1
  clear c2 hr hs2
  go_wp2_with fail
  go_region
  all_goals
    go_wp2
    go_ret2
    exact ⟨_, .inr ⟨_, _, rfl⟩, rfl, grownBy_drew (grownBy_trans g1 (grownBy_own (World.grownBy_alloc _ _ _) g2))⟩

theorem tree_yes1 (s : ByteArray) (w : World) (hs : (bl s).length ≤ 60) {t : Tr} (ho : prs (bl s).length (bl s) = some (t, [])) :
    Calls Tryz.prog 105 #[.string s] w (TreeYes t w) := by
  have hsz : s.size ≤ 60 := by rw [bl_size]; exact hs
  have hd : decide ((60 : Int) < (s.size : Int)) = false := by simp; omega
  go_enter Tryz.func105, Tryz.ntmps105
  go_wp2_with fail
  refine (signs_any _).mono ?_
  rintro e w1 ⟨rfl, hm, g1⟩
  have hr := RdF.made (s := s) hm 154
  have c2 := (reads_to _).yes hr (Nat.le_refl _) ho
  clear hm ho
  go_wp2_with fail
  refine c2.mono ?_
  rintro e w2 ⟨s2, hs2, rfl, h2, g2⟩
  have he := bl_empty hs2
  have hc := h2.1
  clear c2 hr hs2
  go_wp2_with fail
  go_region
  all_goals
    go_wp2
    go_ret2
    exact ⟨rfl, grownBy_drew (grownBy_trans g1 (grownBy_own (World.grownBy_alloc _ _ _) g2))⟩

theorem tree_no (s : ByteArray) (w : World) (h : fOf (bl s) = none) :
    Calls Tryz.prog 105 #[.string s] w (TreeNo w) := by
  by_cases hl : (bl s).length ≤ 60
  · rw [fOf_short hl] at h
    unfold par at h
    cases ho : prs (bl s).length (bl s) with
    | none => exact tree_no1 s w hl ho
    | some p =>
      obtain ⟨t, r⟩ := p
      cases r with
      | nil => rw [ho] at h; cases h
      | cons c r => exact tree_no2 s w hl ho
  · exact tree_long s w (by omega)

theorem tree_yes (s : ByteArray) (w : World) {t : Tr} (h : fOf (bl s) = some t) :
    Calls Tryz.prog 105 #[.string s] w (TreeYes t w) := by
  obtain ⟨e, hl⟩ := fOf_some h
  have hp := prs_full t t.txt.length [] (Nat.le_refl _)
  rw [List.append_nil, ← e] at hp
  exact tree_yes1 s w (by rw [e]; exact hl) hp

theorem form_any (s : ByteArray) (w : World) :
    Calls Tryz.prog 55 #[.string s] w fun e w' => e = .returned (.bool (isF (bl s))) ∧ w.grownBy w' none := by
  cases h : fOf (bl s) with
  | none =>
    have ht := tree_no s w h
    rw [isF_f h]
    clear h
    go_enter Tryz.func55, Tryz.ntmps55
    go_wp2_with fail
    refine ht.mono ?_
    rintro e w1 ⟨v, hv, rfl, g1⟩
    go_wp2_with fail
    go_ret
    exact ⟨rfl, g1⟩
  | some t =>
    have ht := tree_yes s w h
    rw [isF_t h]
    clear h
    go_enter Tryz.func55, Tryz.ntmps55
    go_wp2_with fail
    refine ht.mono ?_
    rintro e w1 ⟨rfl, g1⟩
    go_wp2_with fail
    go_ret
    exact ⟨rfl, g1⟩

end Go.Proofs.YtlnffpofbfigaaaGreatDoor
