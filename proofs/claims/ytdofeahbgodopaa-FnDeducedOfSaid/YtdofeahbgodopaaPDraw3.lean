/-
  What DrawCountTrue draws, told with the address at which the texts lie: never a nil slice.
-/
import Derived.Test.YtdofeahbgodopaaPDraw
namespace Go.Proofs.Ytdofeahbgodopaa
open Go.RowKit

theorem row_grown {k : IntKind} {w w' : World} {a : Option Addr} {len cap : Nat} {zs : List Int} (h : IsRow k w a len cap zs) (hg : w.grownBy w' none) : IsRow k w' a len cap zs := by
  rcases h with h | ⟨x, ha, h1, h2, h3, h4, h5⟩
  · exact .inl h
  · exact .inr ⟨x, ha, h1, h2, h3, fun i hi => cell_grown (h4 i hi) hg, h5⟩
theorem own_some {wr : World} {base : Nat} {v : Value} {ss : List ByteArray} (hm : ss.length ≤ maxLen) (h : wr.ownsRow base 9 1 v ss.length (ss.map Value.string)) (hv : v ≠ .slice none 0 0) : ∃ x cap, v = .slice (some x) ss.length cap ∧ ss.length ≤ cap ∧ StrsAt wr (some x) ss ∧ base ≤ x.block := by
  obtain ⟨a, cap, rfl, h1, h2, h3⟩ := own_texts hm h
  rcases h.2 with ⟨h4, _⟩ | ⟨g, cap, cur, h4, _⟩
  · exact absurd h4 hv
  · simp only [Value.slice.injEq] at h4
    obtain ⟨rfl, _, _⟩ := h4
    exact ⟨_, _, rfl, h1, h2, h3 _ rfl⟩
/-- One text that was laid down. -/
theorem StrsAt.lit1 (w : World) (s : ByteArray) : StrsAt (w.alloc (.cells #[.string s] 9)) (some ⟨w.heap.size, 0, none⟩) [s] := by
  refine ⟨by simp [maxLen], .inr ⟨_, _, rfl, by simp, fun i hi => ?_⟩⟩
  match i, hi with
  | 0, _ => exact cell_made rfl

def PmPostS (r P : Nat) (w : World) (e : Ending) (w' : World) : Prop :=
  ∃ (ss : List ByteArray) (x : Addr) (cap : Nat), e = .returned (.slice (some x) ss.length cap) ∧ ss.length ≤ 4 ∧ ss.length ≤ cap ∧ (∀ s ∈ ss, s.size ≤ 60) ∧ StrsAt w' (some x) ss ∧ r < x.block ∧ Rd w' r (P + 100) ∧ w.grownBy w' (some r)

def PmRelS (r P : Nat) (w : World) (v i : Value) (wr : World) : Prop :=
  ∃ (ss : List ByteArray) (m : Nat), ss.length + m ≤ 2 ∧ i = .int .i64 m ∧ wr.ownsRow w.heap.size 9 1 v ss.length (ss.map Value.string) ∧ v ≠ .slice none 0 0 ∧ (∀ s ∈ ss, s.size ≤ 60) ∧ Rd wr r (P + 1 + 40 * ss.length) ∧ w.grownBy wr (some r)

set_option maxRecDepth 100000 in
set_option maxHeartbeats 4000000 in
theorem premises_some (n : Int) (w : World) (r P : Nat) (hr : Rd w r P) (hP : P ≤ 70000) (hn : 1 ≤ n) (hn2 : n ≤ 1000) :
    Calls Try.prog 37 #[.pointer (some ⟨r, 0, none⟩), .int .i64 n] w (PmPostS r P w) := by
  obtain ⟨i0, hi, hz0, hz1, hz2⟩ := info_parts infoStr
  have hlr := hr.lt
  go_enter Try.func37, Try.ntmps37
  go_wp2_with (go_at_call 43; refine (pick_any _ _ _ _ (hr.alloc _) (by omega)).mono ?_; rintro e w1 ⟨k, rfl, hk0, hk1, hr1, hg1⟩)
  obtain ⟨K, rfl⟩ := Int.eq_ofNat_of_zero_le hk0
  have o1 := own_apartR (World.ownsRow_lit (e := 9) (size := 1) w #[] 0 (Nat.le_refl _) (by unfold maxLen; omega) rfl) hlr hg1
  have g1 := grownBy_trans (World.grownBy_alloc w (.cells #[] 9) (some r)) hg1
  clear hg1
  go_loopw [5, 6] (fun v i wr => PmRelS r P w v i wr) (fun _ i _ => (intOf i).toNat)
  case atStart => exact ⟨[], K, by simp; omega, rfl, o1, by simp, by simp, hr1, g1⟩
  case round =>
    obtain ⟨ss, m, hsm, rfl, hown, hvn, hsz, hrr, hgr⟩ := hrel
    by_cases hlt : 0 < m
    · have hlen : ss.length ≤ 1 := by omega
      have Hs := Lib.hid hsz
      clear hsz
      go_wp2_with (first
        | (go_at_call 60; refine (formed_draw _ _ _ _ hrr (by omega) hn hn2).mono ?_; rintro e w2 ⟨s, rfl, hs, hr2, hg2⟩; replace hown := own_apartR hown hlr hg2; replace hgr := grownBy_trans hgr hg2)
        | (at_builtin; refine wpList_append_own _ rfl _ _ 23 rfl w.heap.size 9 i0 (.string nilS) 1 16 Try.underlying23 hi hz0 hz1 hz2 rfl (by decide) _ _ _ rfl (World.ownsRow.alloc hown _) ⟨w2.heap.size, 0, none⟩ 1 1 [.string s] rfl rfl ?c1 ?c2 ?c3 ?c4 ?c5 ?_))
      case c1 =>
        intro j u hj
        match j, hj with
        | 0, hj => simp at hj; subst hj; simp [Addr.add]
      case c2 => intro u hu; simp at hu; subst hu; rfl
      case c3 => unfold maxLen; omega
      case c4 => omega
      case c5 => have := hgr.size; simp; omega
      intro v' w3 hown' hgrow hne
      have hvn' : v' ≠ .slice none 0 0 := hne
      clear hne hvn
      have hA := World.ownsRow.alloc hown (.cells #[.string s] 9)
      have hr3 := Lib.hid ((hr2.alloc (.cells #[.string s] 9)).rows hA hlr hgrow)
      have hg3 := Lib.hid (grownBy_rowR (grownBy_trans hgr (World.grownBy_alloc w2 (.cells #[.string s] 9) (some r))) hA (Nat.le_refl _) hgrow)
      have e : ss.map Value.string ++ [Value.string s] = (ss ++ [s]).map Value.string := by simp
      rw [e, show ss.length + 1 = (ss ++ [s]).length by simp] at hown'
      have Ho := Lib.hid hown'
      clear hown hown' hgrow hA e hr2 hrr
      go_wp2
      go_roundw
      case rel => exact ⟨ss ++ [s], m - 1, by simp; omega, by go_num, Ho.out, hvn', fun x hx => (List.mem_append.1 hx).elim (Hs.out x) (fun e => by simp at e; rw [e]; exact hs), hr3.out.mono (by simp; omega), hg3.out⟩
      case measure => simp [intOf]; omega
    · obtain rfl : m = 0 := by omega
      clear hlt
      obtain ⟨a, cap, rfl, hcap, hSt, hbl⟩ := own_some (by unfold maxLen; omega) hown hvn
      clear hvn
      generalize hL : P + 1 + 40 * ss.length = L at *
      have HL := Lib.hid hL
      have hL2 : L ≤ 80081 := by omega
      clear hL
      have HS := Lib.hid hSt
      have Hs := Lib.hid hsz
      have Hb := Lib.hid hbl
      clear hSt hsz hown hbl
      go_wp2_with (go_at_call 61; refine (odd_any _ _ _ _ hrr (by omega) hn hn2).mono ?_; rintro e w2 ⟨b, rfl, hr2, hg2⟩)
      · go_ret
        have hlr2 := hr2.lt
        exact ⟨[⟨#[97]⟩, ⟨#[98]⟩, ⟨#[99]⟩, ⟨#[49]⟩], _, _, rfl, by simp, by simp, by intro s hs; simp at hs; rcases hs with rfl | rfl | rfl | rfl <;> decide, StrsAt.lit4 w2, hlr2, (hr2.alloc _).mono (by have := HL.out; omega), grownBy_trans (grownBy_trans hgr hg2) (World.grownBy_alloc _ _ _)⟩
      · go_wp2
        go_ret
        exact ⟨ss, a, cap, rfl, by omega, hcap, Hs.out, HS.out.kept hg2 (fun x hx => by cases hx; have := Hb.out; simp; omega), by have := Hb.out; omega, hr2.mono (by have := HL.out; omega), grownBy_trans hgr hg2⟩

def NpPostS (w : World) (e : Ending) (w' : World) : Prop :=
  ∃ (n : Int) (ss : List ByteArray) (x : Addr) (cap : Nat), e = .returned (.tuple #[.int .i64 n, .slice (some x) ss.length cap]) ∧ -1 ≤ n ∧ n ≤ 7 ∧ ss.length ≤ 4 ∧ ss.length ≤ cap ∧ (∀ s ∈ ss, s.size ≤ 60) ∧ StrsAt w' (some x) ss ∧ w.grownBy w' none

theorem DrawCountTrue_some (a : Option Addr) (len cap : Nat) (zs : List Int) (w : World) (h : IsRow .u8 w a len cap zs) :
    Calls Try.prog 22 #[.slice a len cap] w (NpPostS w) := by
  go_enter Try.func22, Try.ntmps22
  go_wp2_with fail
  refine (open_draw a len cap zs _ h).mono ?_
  rintro e w1 ⟨rfl, hr1, hg1⟩
  clear h
  go_wp2_with fail
  refine (steps_draw _ _ _ _ hr1 (by omega) (by omega) (by omega)).mono ?_
  rintro e w2 ⟨n, rfl, n1, n2, hr2, hg2⟩
  go_wp2_with fail
  refine (premises_some _ _ _ _ hr2 (by omega) (by omega) (by omega)).mono ?_
  rintro e w3 ⟨ss, b, c, rfl, h1, hcap, h2, h3, h4, hr3, hg3⟩
  have H2 := Lib.hid h2
  have H3 := Lib.hid h3
  clear h2 h3 h4
  go_wp2_with fail
  go_ret2
  exact ⟨n, ss, b, c, rfl, n1, n2, h1, hcap, H2.out, H3.out, grownBy_own (grownBy_own hg1 hg2) hg3⟩

end Go.Proofs.Ytdofeahbgodopaa
