/-
  The draws of chapter 7: a list of at most four texts of at most 60 bytes, some chain, some texts, a number.
-/
import Derived.Test.YtdofeahbgodopaaStrs
import Derived.Test.YtdofeahbgodopaaADraw
namespace Go.Proofs.Ytdofeahbgodopaa
open Go.RowKit

theorem Rd.rows {w2 w3 : World} {r P base : Nat} {e : TypeId} {v : Value} {n : Nat} {xs : List Value} (hr : Rd w2 r P) (ho : w2.ownsRow base e 1 v n xs) (hb : r < base) (hg : w2.grownBy w3 v.ownBlock) : Rd w3 r P :=
  hr.kept fun k hk => hg.block k (Nat.lt_of_le_of_lt hk hr.lt) (fun e => by have := World.ownsRow.lt ho k e.symm; omega)
/-- Growth by a row that the call owns, beside the reader. -/
theorem grownBy_rowR {a b c : World} {base r : Nat} {v : Value} {n : Nat} {xs : List Value} {e : TypeId} (h : a.grownBy b (some r)) (ho : b.ownsRow base e 1 v n xs) (hb : a.heap.size ≤ base) (k : b.grownBy c v.ownBlock) : a.grownBy c (some r) :=
  ⟨k.os.trans h.os, k.tape.trans h.tape, k.output.trans h.output, Nat.le_trans h.size k.size, fun i hi hne => by
    refine (k.block i (Nat.lt_of_lt_of_le hi h.size) fun e => ?_).trans (h.block i hi hne)
    have := World.ownsRow.lt ho i e.symm
    omega⟩
theorem own_apartR {w w' : World} {base r : Nat} {e : TypeId} {v : Value} {n : Nat} {xs : List Value} (ho : w.ownsRow base e 1 v n xs) (hb : r < base) (hg : w.grownBy w' (some r)) : w'.ownsRow base e 1 v n xs :=
  World.ownsRow.kept ho hg (.inr fun e => by have := World.ownsRow.lt ho r e; omega)
theorem own_texts {wr : World} {base : Nat} {v : Value} {ss : List ByteArray} (hm : ss.length ≤ maxLen) (h : wr.ownsRow base 9 1 v ss.length (ss.map Value.string)) : ∃ a cap, v = .slice a ss.length cap ∧ ss.length ≤ cap ∧ StrsAt wr a ss ∧ ∀ x, a = some x → base ≤ x.block := by
  rcases h.2 with ⟨rfl, h0⟩ | ⟨g, cap, cur, rfl, hb, _, hlc, hcc, _⟩
  · exact ⟨none, 0, by rw [h0], by omega, by rw [List.length_eq_zero_iff.1 h0]; exact StrsAt.nil _ _, fun x e => by cases e⟩
  · refine ⟨some ⟨g, 0, none⟩, cap, rfl, by omega, ⟨hm, ?_⟩, fun x e => by cases e; exact hb⟩
    by_cases h0 : ss.length = 0
    · exact .inl (List.length_eq_zero_iff.1 h0)
    · have hc : ∀ i, i < ss.length → wr.cell? ⟨g, i, none⟩ = some (.string (ss.getD i nilS)) := fun i hi => by
        have := World.ownsRow.cellAt h i (by omega)
        rw [this]
        simp [List.getD_eq_getElem?_getD, hi]
      exact .inr ⟨g, 0, rfl, World.block_lt_of_cell? wr _ (hc 0 (by omega)), fun i hi => by rw [Nat.zero_add]; exact hc i hi⟩

def PmPost (r P : Nat) (w : World) (e : Ending) (w' : World) : Prop :=
  ∃ (ss : List ByteArray) (a : Option Addr) (cap : Nat), e = .returned (.slice a ss.length cap) ∧ ss.length ≤ 4 ∧ ss.length ≤ cap ∧ (∀ s ∈ ss, s.size ≤ 60) ∧ StrsAt w' a ss ∧ (∀ x, a = some x → r < x.block) ∧ Rd w' r (P + 100) ∧ w.grownBy w' (some r)

def PmRel (r P : Nat) (w : World) (v i : Value) (wr : World) : Prop :=
  ∃ (ss : List ByteArray) (m : Nat), ss.length + m ≤ 2 ∧ i = .int .i64 m ∧ wr.ownsRow w.heap.size 9 1 v ss.length (ss.map Value.string) ∧ (∀ s ∈ ss, s.size ≤ 60) ∧ Rd wr r (P + 1 + 40 * ss.length) ∧ w.grownBy wr (some r)

theorem StrsAt.lit4 (w : World) : StrsAt (w.alloc (.cells #[.string ⟨#[97]⟩, .string ⟨#[98]⟩, .string ⟨#[99]⟩, .string ⟨#[49]⟩] 9)) (some ⟨w.heap.size, 0, none⟩) [⟨#[97]⟩, ⟨#[98]⟩, ⟨#[99]⟩, ⟨#[49]⟩] := by
  refine ⟨by simp [maxLen], .inr ⟨_, _, rfl, by simp, fun i hi => ?_⟩⟩
  match i, hi with
  | 0, _ => exact cell_made rfl
  | 1, _ => exact cell_made rfl
  | 2, _ => exact cell_made rfl
  | 3, _ => exact cell_made rfl

set_option maxRecDepth 100000 in
set_option maxHeartbeats 4000000 in
theorem premises_draw (n : Int) (w : World) (r P : Nat) (hr : Rd w r P) (hP : P ≤ 70000) (hn : 1 ≤ n) (hn2 : n ≤ 1000) :
    Calls Try.prog 37 #[.pointer (some ⟨r, 0, none⟩), .int .i64 n] w (PmPost r P w) := by
  obtain ⟨i0, hi, hz0, hz1, hz2⟩ := info_parts infoStr
  have hlr := hr.lt
  go_enter Try.func37, Try.ntmps37
  go_wp2_with (go_at_call 43; refine (pick_any _ _ _ _ (hr.alloc _) (by omega)).mono ?_; rintro e w1 ⟨k, rfl, hk0, hk1, hr1, hg1⟩)
  obtain ⟨K, rfl⟩ := Int.eq_ofNat_of_zero_le hk0
  have o1 := own_apartR (World.ownsRow_lit (e := 9) (size := 1) w #[] 0 (Nat.le_refl _) (by unfold maxLen; omega) rfl) hlr hg1
  have g1 := grownBy_trans (World.grownBy_alloc w (.cells #[] 9) (some r)) hg1
  clear hg1
  go_loopw [5, 6] (fun v i wr => PmRel r P w v i wr) (fun _ i _ => (intOf i).toNat)
  case atStart => exact ⟨[], K, by simp; omega, rfl, o1, by simp, hr1, g1⟩
  case round =>
    obtain ⟨ss, m, hsm, rfl, hown, hsz, hrr, hgr⟩ := hrel
    by_cases hlt : 0 < m
    · have hlen : ss.length ≤ 1 := by omega
      have Hs := Lib.hid hsz
      clear hsz
      go_wp2_with (first
        | (go_at_call 60; refine (formed_draw _ _ _ _ hrr (by omega) hn hn2).mono ?_; rintro e w2 ⟨s, rfl, hs, hr2, hg2⟩; replace hown := own_apartR hown hlr hg2; replace hgr := grownBy_trans hgr hg2)
        | (at_builtin; refine wpList_append_own _ rfl _ _ 23 rfl w.heap.size 9 i0 (.string nilS) 1 16 Try.underlying23 hi hz0 hz1 hz2 rfl (by decide) _ _ _ rfl (World.ownsRow.alloc hown _) ⟨w2.heap.size, 0, none⟩ 1 1 [.string s] rfl rfl ?c1 ?c2 ?c3 ?c4 ?c5 ?_))
      case c1 =>
        intro j u hj
        match j, hj with
        | 0, hj => simp at hj; subst hj; simp [Addr.add]
      case c2 => intro u hu; simp at hu; subst hu; rfl
      case c3 => unfold maxLen; omega
      case c4 => omega
      case c5 => have := hgr.size; simp; omega
      intro v' w3 hown' hgrow _
      have hA := World.ownsRow.alloc hown (.cells #[.string s] 9)
      have hr3 := Lib.hid ((hr2.alloc (.cells #[.string s] 9)).rows hA hlr hgrow)
      have hg3 := Lib.hid (grownBy_rowR (grownBy_trans hgr (World.grownBy_alloc w2 (.cells #[.string s] 9) (some r))) hA (Nat.le_refl _) hgrow)
      have e : ss.map Value.string ++ [Value.string s] = (ss ++ [s]).map Value.string := by simp
      rw [e, show ss.length + 1 = (ss ++ [s]).length by simp] at hown'
      have Ho := Lib.hid hown'
      clear hown hown' hgrow hA e hr2 hrr
      go_wp2
      go_roundw
      case rel => exact ⟨ss ++ [s], m - 1, by simp; omega, by go_num, Ho.out, fun x hx => (List.mem_append.1 hx).elim (Hs.out x) (fun e => by simp at e; rw [e]; exact hs), hr3.out.mono (by simp; omega), hg3.out⟩
      case measure => simp [intOf]; omega
    · obtain rfl : m = 0 := by omega
      clear hlt
      obtain ⟨a, cap, rfl, hcap, hSt, hbl⟩ := own_texts (by unfold maxLen; omega) hown
      generalize hL : P + 1 + 40 * ss.length = L at *
      have HL := Lib.hid hL
      have hL2 : L ≤ 80081 := by omega
      clear hL
      have HS := Lib.hid hSt
      have Hs := Lib.hid hsz
      have Hb := Lib.hid hbl
      clear hSt hsz hown hbl
      go_wp2_with (go_at_call 61; refine (odd_any _ _ _ _ hrr (by omega) hn hn2).mono ?_; rintro e w2 ⟨b, rfl, hr2, hg2⟩)
      · go_ret
        have hlr2 := hr2.lt
        exact ⟨[⟨#[97]⟩, ⟨#[98]⟩, ⟨#[99]⟩, ⟨#[49]⟩], _, _, rfl, by simp, by simp, by intro s hs; simp at hs; rcases hs with rfl | rfl | rfl | rfl <;> decide, StrsAt.lit4 w2, fun x hx => by cases hx; exact hlr2, (hr2.alloc _).mono (by have := HL.out; omega), grownBy_trans (grownBy_trans hgr hg2) (World.grownBy_alloc _ _ _)⟩
      · go_wp2
        go_ret
        exact ⟨ss, a, cap, rfl, by omega, hcap, Hs.out, HS.out.kept hg2 (fun x hx => by have := Hb.out x hx; simp; omega), fun x hx => by have := Hb.out x hx; omega, hr2.mono (by have := HL.out; omega), grownBy_trans hgr hg2⟩

end Go.Proofs.Ytdofeahbgodopaa
