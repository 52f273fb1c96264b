/-
  The draws of chapter 8: some chain and rows of at most six values.
-/
import Derived.Test.YtbalikemmilnaaaRow
import Derived.Test.YtbalikemmilnaaaSDraw
import Derived.Test.YtbalikemmilnaaaADraw
namespace Go.Proofs.Ytbalikemmilnaaa
open Go.RowKit

theorem Rd.rowI {w2 w3 : World} {r P base : Nat} {e : TypeId} {v : Value} {n : Nat} {xs : List Value} (hr : Rd w2 r P) (ho : w2.ownsRow base e 1 v n xs) (hb : r < base) (hg : w2.grownBy w3 v.ownBlock) : Rd w3 r P :=
  hr.kept fun k hk => hg.block k (Nat.lt_of_le_of_lt hk hr.lt) (fun e => by have := World.ownsRow.lt ho k e.symm; omega)
/-- Growth by a row that the call owns, beside the reader. -/
theorem grownBy_rowI {a b c : World} {base r : Nat} {v : Value} {n : Nat} {xs : List Value} {e : TypeId} (h : a.grownBy b (some r)) (ho : b.ownsRow base e 1 v n xs) (hb : a.heap.size ≤ base) (k : b.grownBy c v.ownBlock) : a.grownBy c (some r) :=
  ⟨k.os.trans h.os, k.tape.trans h.tape, k.output.trans h.output, Nat.le_trans h.size k.size, fun i hi hne => by
    refine (k.block i (Nat.lt_of_lt_of_le hi h.size) fun e => ?_).trans (h.block i hi hne)
    have := World.ownsRow.lt ho i e.symm
    omega⟩
theorem own_apartI {w w' : World} {base r : Nat} {e : TypeId} {v : Value} {n : Nat} {xs : List Value} (ho : w.ownsRow base e 1 v n xs) (hb : r < base) (hg : w.grownBy w' (some r)) : w'.ownsRow base e 1 v n xs :=
  World.ownsRow.kept ho hg (.inr fun e => by have := World.ownsRow.lt ho r e; omega)
theorem own_ints {wr : World} {base : Nat} {v : Value} {xs : List Int} (hm : xs.length ≤ maxLen) (h : wr.ownsRow base 3 1 v xs.length (xs.map (Value.int .i64))) : ∃ a cap, v = .slice a xs.length cap ∧ xs.length ≤ cap ∧ IntsAt wr a xs ∧ ∀ x, a = some x → base ≤ x.block := by
  obtain ⟨a, cap, rfl, _, hO⟩ := ownI_shape h
  have hA := hO.at hm
  rcases hO.2 with ⟨h1, h0⟩ | ⟨g, c, cur, h1, hb, hg, hlc, hcc, h2⟩
  · simp only [Value.slice.injEq] at h1
    obtain ⟨rfl, _, rfl⟩ := h1
    exact ⟨none, 0, rfl, by omega, hA, fun x e => by cases e⟩
  · simp only [Value.slice.injEq, true_and] at h1
    obtain ⟨rfl, rfl⟩ := h1
    exact ⟨_, _, rfl, hlc, hA, fun x e => by cases e; exact hb⟩

def RowPost (r P : Nat) (w : World) (e : Ending) (w' : World) : Prop :=
  ∃ (xs : List Int) (a : Option Addr) (cap : Nat), e = .returned (.slice a xs.length cap) ∧ 1 ≤ xs.length ∧ xs.length ≤ 5 ∧ xs.length ≤ cap ∧ (∀ x ∈ xs, 0 ≤ x ∧ x ≤ 1007) ∧ IntsAt w' a xs ∧ (∀ x, a = some x → r < x.block) ∧ Rd w' r (P + 11) ∧ w.grownBy w' (some r)

def RowsRel (r P : Nat) (w : World) (v i : Value) (wr : World) : Prop :=
  ∃ (xs : List Int) (m : Nat), 1 ≤ xs.length + m ∧ xs.length + m ≤ 5 ∧ i = .int .i64 m ∧ wr.ownsRow w.heap.size 3 1 v xs.length (xs.map (Value.int .i64)) ∧ (∀ x ∈ xs, 0 ≤ x ∧ x ≤ 1007) ∧ Rd wr r (P + 1 + 2 * xs.length) ∧ w.grownBy wr (some r)

set_option maxRecDepth 100000 in
set_option maxHeartbeats 4000000 in
theorem row_draw (n : Int) (w : World) (r P : Nat) (hr : Rd w r P) (hP : P ≤ 70000) (hn : -100 ≤ n) (hn2 : n ≤ 900) :
    Calls Try.prog 51 #[.pointer (some ⟨r, 0, none⟩), .int .i64 n] w (RowPost r P w) := by
  obtain ⟨i0, hi, hz0, hz1, hz2⟩ := info_parts infoInt
  have hlr := hr.lt
  go_enter Try.func51, Try.ntmps51
  go_wp2_with (go_at_call 50; refine (pick_any _ _ _ _ (hr.alloc _) (by omega)).mono ?_; rintro e w1 ⟨k, rfl, hk0, hk1, hr1, hg1⟩)
  obtain ⟨K, rfl⟩ := Int.eq_ofNat_of_zero_le hk0
  have o1 := own_apartI (World.ownsRow_lit (e := 3) (size := 1) w #[] 0 (Nat.le_refl _) (by unfold maxLen; omega) rfl) hlr hg1
  have g1 := grownBy_trans (World.grownBy_alloc w (.cells #[] 3) (some r)) hg1
  clear hg1
  go_loopw [5, 6] (fun v i wr => RowsRel r P w v i wr) (fun _ i _ => (intOf i).toNat)
  case atStart => exact ⟨[], K + 1, by simp, by simp; omega, by go_num, o1, by simp, hr1, g1⟩
  case round =>
    obtain ⟨xs, m, hsm0, hsm, rfl, hown, hsz, hrr, hgr⟩ := hrel
    by_cases hlt : 0 < m
    · have hlen : xs.length ≤ 4 := by omega
      have Hs := Lib.hid hsz
      clear hsz
      have h3 : n < 0 ∨ n = 0 ∨ 0 < n := by omega
      rcases h3 with h3 | rfl | h3
      all_goals
        go_wp2_with fail
      all_goals
        refine (pick_any _ _ _ _ hrr (by omega)).mono ?_
        rintro e w2 ⟨k1, rfl, p0, p1, hr2, hg2⟩
        replace hown := own_apartI hown hlr hg2
        replace hgr := grownBy_trans hgr hg2
        clear hg2 hrr
        go_wp2_with fail
        refine (pick_any _ _ _ _ hr2 (by omega)).mono ?_
        rintro e w3 ⟨k2, rfl, p2, p3, hr3, hg3⟩
        replace hown := own_apartI hown hlr hg3
        replace hgr := grownBy_trans hgr hg3
        clear hg3 hr2
        go_wp2_with (at_builtin; refine wpList_append_own _ rfl _ _ 29 rfl w.heap.size 3 i0 (.int .i64 0) 1 8 Try.underlying29 hi hz0 hz1 hz2 rfl (by decide) _ _ _ rfl (World.ownsRow.alloc hown _) ⟨w3.heap.size, 0, none⟩ 1 1 [.int .i64 (k1 + k2 / 59 * 7)] rfl rfl ?c1 ?c2 ?c3 ?c4 ?c5 ?_)
        case c1 =>
          intro j u hj
          match j, hj with
          | 0, hj => simp at hj; subst hj; simp [Addr.add]
        case c2 => intro u hu; simp at hu; subst hu; rfl
        case c3 => unfold maxLen; omega
        case c4 => omega
        case c5 => have := hgr.size; simp; omega
        intro v' w4 hown' hgrow _
        have hA := World.ownsRow.alloc hown (.cells #[.int .i64 (k1 + k2 / 59 * 7)] 3)
        have hr4 := Lib.hid ((hr3.alloc (.cells #[.int .i64 (k1 + k2 / 59 * 7)] 3)).rowI hA hlr hgrow)
        have hg4 := Lib.hid (grownBy_rowI (grownBy_trans hgr (World.grownBy_alloc w3 (.cells #[.int .i64 (k1 + k2 / 59 * 7)] 3) (some r))) hA (Nat.le_refl _) hgrow)
        have e : xs.map (Value.int .i64) ++ [Value.int .i64 (k1 + k2 / 59 * 7)] = (xs ++ [k1 + k2 / 59 * 7]).map (Value.int .i64) := by simp
        rw [e, show xs.length + 1 = (xs ++ [k1 + k2 / 59 * 7]).length by simp] at hown'
        have Ho := Lib.hid hown'
        clear hown hown' hgrow hA e hr3 hgr
        go_wp2
        go_roundw
        case rel => exact ⟨xs ++ [k1 + k2 / 59 * 7], m - 1, by simp; omega, by simp; omega, by go_num, Ho.out, fun x hx => (List.mem_append.1 hx).elim (Hs.out x) (fun e => by simp at e; omega), hr4.out.mono (by simp; omega), hg4.out⟩
        case measure => simp [intOf]; omega
    · obtain rfl : m = 0 := by omega
      obtain ⟨a, cap, rfl, hcap, hSt, hbl⟩ := own_ints (by unfold maxLen; omega) hown
      have HS := Lib.hid hSt
      have Hs := Lib.hid hsz
      have Hb := Lib.hid hbl
      clear hSt hsz hown hbl
      go_wp2
      go_ret
      exact ⟨xs, a, cap, rfl, by omega, by omega, hcap, Hs.out, HS.out, fun x hx => by have := Hb.out x hx; omega, hrr.mono (by omega), hgr⟩

end Go.Proofs.Ytbalikemmilnaaa
