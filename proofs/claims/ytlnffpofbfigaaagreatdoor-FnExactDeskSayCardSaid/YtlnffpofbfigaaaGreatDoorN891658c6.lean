/-
  Slices of texts that a call was handed or made: what is read of them (szStringS, eqStringS), the copy (toStringS). No condition but what the law itself asks of lengths.
-/
import Derived.Test.YtlnffpofbfigaaaGreatDoorMdba168c0
import Derived.SliceStrings
import Derived.Deep.RegionHeld3
namespace Go.Proofs.YtlnffpofbfigaaaGreatDoor
open Go.RowKit

def nilS : ByteArray := ⟨#[]⟩
/-- Texts as they lie, one behind the other. -/
def StrsAt (w : World) (a : Option Addr) (ss : List ByteArray) : Prop :=
  ss.length ≤ maxLen ∧ (ss = [] ∨ ∃ b off, a = some ⟨b, off, none⟩ ∧ b < w.heap.size ∧ ∀ i, i < ss.length → w.cell? ⟨b, off + i, none⟩ = some (.string (ss.getD i nilS)))
theorem StrsAt.kept {w w' : World} {a : Option Addr} {ss : List ByteArray} {row : Option Nat} (h : StrsAt w a ss) (hg : w.grownBy w' row) (hne : ∀ x, a = some x → some x.block ≠ row) : StrsAt w' a ss := by
  refine ⟨h.1, ?_⟩
  rcases h.2 with h | ⟨b, off, ha, hb, hc⟩
  · exact .inl h
  · exact .inr ⟨b, off, ha, Nat.lt_of_lt_of_le hb hg.size, fun i hi => (World.cell?_of_block (w := w) (a := ⟨b, off + i, none⟩) (hg.block b hb (hne _ ha))).trans (hc i hi)⟩
theorem StrsAt.grown {w w' : World} {a : Option Addr} {ss : List ByteArray} (h : StrsAt w a ss) (hg : w.grownBy w' none) : StrsAt w' a ss := h.kept hg (by simp)
theorem StrsAt.nil (w : World) (a : Option Addr) : StrsAt w a [] := ⟨by simp, .inl rfl⟩
/-- All but the first. -/
theorem StrsAt.tail {w : World} {b off : Nat} {s : ByteArray} {ss : List ByteArray} (h : StrsAt w (some ⟨b, off, none⟩) (s :: ss)) : StrsAt w (some ⟨b, off + 1, none⟩) ss := by
  refine ⟨by have := h.1; simp at this; omega, ?_⟩
  rcases h.2 with h | ⟨b', off', ha, hb, hc⟩
  · cases h
  · cases ha
    refine .inr ⟨_, _, rfl, hb, fun i hi => ?_⟩
    have := hc (i + 1) (by simp; omega)
    rw [Nat.add_assoc, Nat.add_comm 1 i]
    simpa using this

/-- What the law is told of a slice of texts that came in. -/
def IsStrs (w : World) (a : Option Addr) (len cap : Nat) (zs : List ByteArray) : Prop :=
  (a = none ∧ len = 0 ∧ cap = 0 ∧ zs = []) ∨
  ∃ x, a = some x ∧ len ≤ cap ∧ cap ≤ maxLen ∧ zs.length = cap ∧ (∀ i, i < zs.length → w.cell? (x.add i) = some (.string (zs.getD i ByteArray.empty))) ∧ ∀ s ∈ zs, s.size ≤ maxLen
theorem IsStrs.at {w : World} {a : Option Addr} {len cap : Nat} {zs : List ByteArray} (h : IsStrs w a len cap zs) (hp : ∀ x, a = some x → x.spot = none) : StrsAt w a (zs.take len) ∧ (zs.take len).length = len ∧ ∀ s ∈ zs.take len, s.size ≤ maxLen := by
  rcases h with ⟨rfl, rfl, rfl, rfl⟩ | ⟨x, rfl, h1, h2, h3, h4, h5⟩
  · exact ⟨StrsAt.nil _ _, rfl, by simp⟩
  · have hl : (zs.take len).length = len := by rw [List.length_take]; omega
    refine ⟨⟨by omega, ?_⟩, hl, fun s hs => h5 s (List.mem_of_mem_take hs)⟩
    by_cases h0 : len = 0
    · left; rw [h0]; rfl
    · right
      obtain ⟨b, off, p⟩ := x
      obtain rfl : p = none := hp _ rfl
      have c0 := h4 0 (by omega)
      refine ⟨b, off, rfl, World.block_lt_of_cell? w _ (by simpa [Addr.add] using c0), fun i hi => ?_⟩
      have := h4 i (by omega)
      rw [show (⟨b, off + i, none⟩ : Addr) = (⟨b, off, none⟩ : Addr).add i by simp [Addr.add], this]
      rw [hl] at hi
      simp [List.getD_eq_getElem?_getD, hi, nilS]
      cases zs[i]? <;> rfl

/-! Two rows of texts, the same. -/
def szTo (ss : List ByteArray) (L : Int) : Nat → Int
  | 0 => L
  | k + 1 => szTo ss L k - ((ss.getD k nilS).size : Int)
/-- What szStringS answers: what is left, or -1 where it is too much. -/
def szB (ss : List ByteArray) (L : Int) : Bool := decide (0 ≤ L - ss.length) && (List.range ss.length).all fun k => decide (0 ≤ szTo ss (L - ss.length) (k + 1))
theorem szB_of {ss : List ByteArray} {L : Int} (h : szB ss L = true) : 0 ≤ L - ss.length ∧ ∀ k, k < ss.length → 0 ≤ szTo ss (L - ss.length) (k + 1) := by
  unfold szB at h
  rw [Bool.and_eq_true, List.all_eq_true] at h
  exact ⟨of_decide_eq_true h.1, fun k hk => of_decide_eq_true (h.2 k (List.mem_range.2 hk))⟩
theorem szB_no {ss : List ByteArray} {L : Int} {k : Nat} (hk : k < ss.length) (h : szTo ss (L - ss.length) (k + 1) < 0) : szB ss L = false := by
  cases e : szB ss L
  · rfl
  · have := (szB_of e).2 k hk; omega
theorem szB_neg {ss : List ByteArray} {L : Int} (h : L - (ss.length : Int) < 0) : szB ss L = false := by
  cases e : szB ss L
  · rfl
  · have := (szB_of e).1; omega
theorem szTo_le (ss : List ByteArray) (L : Int) : ∀ k, szTo ss L k ≤ L
  | 0 => Int.le_refl _
  | k + 1 => by have := szTo_le ss L k; show szTo ss L k - _ ≤ L; omega
theorem szTo_size {ss : List ByteArray} {L : Int} (k : Nat) : ((ss.getD k nilS).size : Int) = szTo ss L k - szTo ss L (k + 1) := by
  show _ = szTo ss L k - (szTo ss L k - _); omega
/-- Where szStringS lets a row by, it has at most so many texts, each of at most so many bytes. -/
theorem szB_small {ss : List ByteArray} {L : Int} (h : szB ss L = true) : (ss.length : Int) ≤ L ∧ ∀ s ∈ ss, (s.size : Int) ≤ L := by
  obtain ⟨h1, h2⟩ := szB_of h
  refine ⟨by omega, fun s hs => ?_⟩
  obtain ⟨k, hk, rfl⟩ := List.mem_iff_getElem.1 hs
  have h3 := h2 k hk
  have h4 := szTo_size (ss := ss) (L := L - ss.length) k
  have h5 := szTo_le ss (L - ss.length) k
  rw [List.getD_eq_getElem?_getD, List.getElem?_eq_getElem hk, Option.getD_some] at h4
  omega
def szV (ss : List ByteArray) (L : Int) : Int := if szB ss L = true then szTo ss (L - ss.length) ss.length else -1
theorem szV_t {ss : List ByteArray} {L : Int} (h : szB ss L = true) : szV ss L = szTo ss (L - ss.length) ss.length := if_pos h
theorem szV_f {ss : List ByteArray} {L : Int} (h : szB ss L = false) : szV ss L = -1 := if_neg (by rw [h]; simp)
def SzRel (ss : List ByteArray) (L : Int) (w : World) (l i : Value) (wr : World) : Prop :=
  ∃ k : Nat, k ≤ ss.length ∧ i = .int .i64 k ∧ l = .int .i64 (szTo ss (L - ss.length) k) ∧ 0 ≤ szTo ss (L - ss.length) k ∧ (∀ j, j < k → 0 ≤ szTo ss (L - ss.length) (j + 1)) ∧ w = wr

set_option maxHeartbeats 1000000 in
theorem sz_any (L : Int) (hL : 0 ≤ L ∧ L ≤ 100000000) (a : Option Addr) (cap : Nat) (ss : List ByteArray) (hz : ∀ s ∈ ss, s.size ≤ maxLen) (w : World) (h : StrsAt w a ss) :
    Calls Tryz.prog 33 #[.slice a ss.length cap, .int .i64 L] w fun e w' => e = .returned (.int .i64 (szV ss L)) ∧ w = w' := by
  have hm := h.1
  unfold maxLen at hm hz
  have Hh := Lib.hid h
  have Hz := Lib.hid hz
  clear h hz
  by_cases h0 : L - (ss.length : Int) < 0
  · have e : szV ss L = -1 := szV_f (szB_neg h0)
    rw [e]
    go_enter Tryz.func33, Tryz.ntmps33
    go_wp2
    go_ret
    exact ⟨rfl, rfl⟩
  · go_enter Tryz.func33, Tryz.ntmps33
    go_wp2
    go_loopw [1, 5] (fun l i wr => SzRel ss L w l i wr) (fun _ i _ => ss.length - (intOf i).toNat)
    case atStart => exact ⟨0, by omega, rfl, rfl, (by show 0 ≤ L - _; omega), fun j hj => absurd hj (by omega), rfl⟩
    case round =>
      obtain ⟨k, hk, rfl, rfl, h3, h4, rfl⟩ := hrel
      have Hk := Lib.hid h4
      clear h4
      by_cases hlt : k < ss.length
      · rcases Hh.out.2 with h1 | ⟨b, off, rfl, hb, hc⟩
        · rw [h1] at hlt; simp at hlt
        have hck := hc k hlt
        have hs := Hz.out (ss.getD k nilS) (by rw [List.getD_eq_getElem?_getD, List.getElem?_eq_getElem hlt, Option.getD_some]; exact List.getElem_mem hlt)
        have hS : szTo ss (L - ss.length) k - ((ss.getD k nilS).size : Int) = szTo ss (L - ss.length) (k + 1) := rfl
        have hle := szTo_le ss (L - ss.length) k
        clear hc hb
        by_cases hn : szTo ss (L - ss.length) (k + 1) < 0
        · have e := Lib.hid (szV_f (szB_no hlt hn))
          generalize szTo ss (L - ss.length) (k + 1) = q at *
          generalize szTo ss (L - ss.length) k = p at *
          generalize ss.getD k nilS = t at *
          go_wp2
          go_ret
          exact ⟨by rw [e.out]; rfl, rfl⟩
        · have Hn : Hid (∀ j, j < k + 1 → 0 ≤ szTo ss (L - ss.length) (j + 1)) := fun j hj => by
            by_cases e : j = k
            · rw [e]; omega
            · exact Hk.out j (by omega)
          have e1 := Lib.hid (rfl : szTo ss (L - ss.length) (k + 1) = szTo ss (L - ss.length) (k + 1))
          generalize hq : szTo ss (L - ss.length) (k + 1) = q at *
          have Hq := Lib.hid hq
          clear hq
          generalize szTo ss (L - ss.length) k = p at *
          generalize ss.getD k nilS = t at *
          go_wp2
          go_roundw
          case rel => exact ⟨k + 1, by omega, by go_num, by rw [Hq.out] <;> (refine congrArg (Value.int .i64) ?_; omega), by rw [Hq.out]; omega, Hn.out, rfl⟩
          case measure => simp [intOf]; omega
      · obtain rfl : k = ss.length := by omega
        have e : Hid (szV ss L = szTo ss (L - ss.length) ss.length) := szV_t (by
          unfold szB
          rw [Bool.and_eq_true, List.all_eq_true]
          exact ⟨decide_eq_true (by omega), fun k hk => decide_eq_true (Hk.out k (List.mem_range.1 hk))⟩)
        go_wp2
        go_ret
        exact ⟨by rw [e.out]; rfl, rfl⟩

set_option maxHeartbeats 1000000 in
theorem eqS_any (a b : Option Addr) (ca cb : Nat) (ss : List ByteArray) (w : World) (hx : StrsAt w a ss) (hy : StrsAt w b ss) :
    Calls Tryz.prog 35 #[.slice a ss.length ca, .slice b ss.length cb] w fun e w' => e = .returned (.bool true) ∧ w.grownBy w' none := by
  have hm := hx.1
  unfold maxLen at hm
  have Hx := Lib.hid hx
  have Hy := Lib.hid hy
  clear hx hy
  have g0 : ((ss.length : Int) != (ss.length : Int)) = false := by simp
  go_enter Tryz.func35, Tryz.ntmps35
  go_wp2
  clear g0
  go_loopw [5] (fun i wr => ∃ k : Nat, k ≤ ss.length ∧ i = .int .i64 k ∧ w.grownBy wr none) (fun i _ => ss.length - (intOf i).toNat)
  case atStart => exact ⟨0, by omega, rfl, grownBy_refl _ _⟩
  case round =>
    obtain ⟨k, hk, rfl, hgr⟩ := hrel
    by_cases hlt : k < ss.length
    · have hx2 := Hx.out.grown hgr
      have hy2 := Hy.out.grown hgr
      have Hgr := Lib.hid hgr
      clear hgr
      rcases hx2.2 with h0 | ⟨bx, ox, rfl, hbx, hcx⟩
      · rw [h0] at hlt; simp at hlt
      rcases hy2.2 with h0 | ⟨by', oy, rfl, hby, hcy⟩
      · rw [h0] at hlt; simp at hlt
      have hc1 := hcx k hlt
      have hc2 := hcy k hlt
      clear hx2 hy2 hcx hcy hbx hby
      generalize ss.getD k nilS = p at *
      have g1 : (p.toList != p.toList) = false := by simp
      go_wp2
      go_quiet (fail)
      go_wp2
      go_roundw
      case rel => exact ⟨k + 1, by omega, by go_num, grownBy_drewN Hgr.out _⟩
      case measure => simp [intOf]; omega
    · have Hgr := Lib.hid hgr
      clear hgr
      go_wp2
      go_ret
      exact ⟨rfl, Hgr.out⟩

theorem infoStr : (Tryz.prog.info? 9).map (fun i => (i.zero, i.size, i.bytes)) = some (some (.string nilS), 1, 16) := by kernel_rfl

def CpyRel (g : Nat) (ss : List ByteArray) (w : World) (i : Value) (wr : World) : Prop :=
  ∃ (k : Nat) (xs : List Value), k ≤ ss.length ∧ i = .int .i64 k ∧ wr.ownsRow w.heap.size 9 1 (.slice (some ⟨g, 0, none⟩) ss.length ss.length) ss.length xs ∧ (∀ j, j < k → xs[j]? = some (.string (ss.getD j nilS))) ∧ w.grownBy wr none

end Go.Proofs.YtlnffpofbfigaaaGreatDoor
