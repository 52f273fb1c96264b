/-
  impl's setFor, of a function that truthKept handed back: the first set so that after both answers a truth holds.
-/
import Derived.Test.YthfikgaghinfbaaLTru
namespace Go.Proofs.Ythfikgaghinfbaa
open Go.RowKit

def SfRel (M : Nat) (w : World) (i : Value) (wr : World) : Prop := ∃ S : Nat, S ≤ M ∧ i = .int .i64 S ∧ w.grownBy wr none
/-- The first set after which it is enough, or that there is none. -/
def FirstS (N L q c M : Nat) (fnd : Bool) : Prop := (∀ s, s < M → bothB N L q c s = false) ∧ ((fnd = true ∧ M < 2 ^ L ∧ bothB N L q c M = true) ∨ (fnd = false ∧ M = 2 ^ L))
theorem first_is (N L q c : Nat) : ∃ M fnd, FirstS N L q c M fnd ∧ fnd = (List.range (2 ^ L)).any (bothB N L q c) := by
  cases hf : (List.range (2 ^ L)).find? (bothB N L q c) with
  | none =>
    have h := List.find?_eq_none.1 hf
    refine ⟨2 ^ L, false, ⟨fun s hs => by simpa using h s (List.mem_range.2 hs), .inr ⟨rfl, rfl⟩⟩, ?_⟩
    symm
    rw [List.any_eq_false]
    intro s hs
    exact h s hs
  | some q2 =>
    have h1 := List.find?_some hf
    obtain ⟨_, pre, bs, e, hall⟩ := List.find?_eq_some_iff_append.1 hf
    have hlen : pre.length = q2 := by
      have h2 : (List.range (2 ^ L))[pre.length]? = some q2 := by rw [e]; simp
      rw [List.getElem?_eq_some_iff] at h2
      obtain ⟨_, h2⟩ := h2
      simpa using h2
    have hmem : q2 ∈ List.range (2 ^ L) := by rw [e]; simp
    refine ⟨q2, true, ⟨fun s hs => ?_, .inl ⟨rfl, List.mem_range.1 hmem, h1⟩⟩, ?_⟩
    · have hq2 : s ∈ pre := by
        have h3 : (List.range (2 ^ L))[s]? = pre[s]? := by rw [e, List.getElem?_append_left (by omega)]
        rw [List.getElem?_eq_getElem (l := pre) (by omega), List.getElem?_eq_some_iff] at h3
        obtain ⟨_, h3⟩ := h3
        have h4 : s = pre[s] := by simpa using h3
        rw [h4]
        exact List.getElem_mem _
      simpa using hall s hq2
    · symm
      rw [List.any_eq_true]
      exact ⟨q2, hmem, h1⟩

/-- What setFor answers. -/
def sfV (M : Nat) (fnd : Bool) : Int := if fnd = true then (M : Int) else -1

set_option maxHeartbeats 4000000 in
theorem isetfor_any (N q : Nat) (a : Option Addr) (cap : Nat) (xs : List Int) (Bk Bs b o c0 M : Nat) (fnd : Bool) (w : World) (h : IntsAt w a xs) (hg : gameB (N : Int) xs = true) (hk : KeptAt w Bk Bs N b o c0 (pw N xs.length) (svB N xs.length q)) (hM : FirstS N xs.length q (codeL N xs) M fnd) :
    Calls Try.prog 63 #[.slice a xs.length cap, .func (.func 77) #[] #[.pointer (some ⟨Bk, 0, none⟩), .pointer (some ⟨Bs, 0, none⟩)]] w fun e w' => e = .returned (.tuple #[.int .i64 (sfV M fnd), .bool fnd]) ∧ w.grownBy w' none := by
  have hN : 1 ≤ N ∧ N ≤ 3 := by have := (gameB_of hg).1; omega
  have hL := (gameB_of hg).2.1
  have tp := two_pow hL
  obtain ⟨P, hP⟩ : ∃ P : Int, 2 ^ xs.length = P := ⟨_, rfl⟩
  have HP := Lib.hid hP
  rw [hP] at tp
  have hsh : wrap64 (2 ^ xs.length) = P := (pow_wrap hL).1.trans hP
  have hsh' : IntKind.i64.wrap (2 ^ xs.length) = P := (pow_wrap hL).2.trans hP
  have hl3 : (xs.length : Int) ≤ 3 := by omega
  have HN := Lib.hid hN
  have HL := Lib.hid hL
  have HGM := Lib.hid hg
  have H := Lib.hid h
  have HK := Lib.hid hk
  have HM := Lib.hid hM
  have hPn : Hid (((2 ^ xs.length : Nat) : Int) = P) := by unfold Hid; rw [← hP]; push_cast; rfl
  have hM2 : Hid (M ≤ 2 ^ xs.length) := by
    unfold Hid
    rcases hM.2 with ⟨_, h1, _⟩ | ⟨_, h1⟩
    · exact Nat.le_of_lt h1
    · exact Nat.le_of_eq h1
  clear hN hL hg h hk hM hP
  go_enter Try.func63, Try.ntmps63
  go_wp2_with fail
  go_loopw [10] (fun i wr => SfRel M w i wr) (fun i _ => M + 1 - (intOf i).toNat)
  case atStart => exact ⟨0, Nat.zero_le _, rfl, grownBy_refl _ _⟩
  case round =>
    obtain ⟨S, hS, rfl, hgr⟩ := hrel
    by_cases hlt : S < 2 ^ xs.length
    · have sP : (S : Int) < P := by have := hPn.out; omega
      have hx3 : ∀ k, k < xs.length → 0 ≤ xs.getD k 0 ∧ xs.getD k 0 ≤ 3 := fun k hk => ⟨((gameB_of HGM.out).2.2 k hk).1, by have := ((gameB_of HGM.out).2.2 k hk).2; have := HN.out; omega⟩
      have S8 : S ≤ 1000 := by have := two_pow HL.out; have := HP.out; have := hPn.out; omega
      have c1 := ians_any a cap xs S true wr (H.out.grown hgr) S8 HL.out hx3
      have c3 := fun w5 (g5 : wr.grownBy w5 none) => ians_any a cap xs S false w5 (H.out.grown (grownBy_trans hgr g5)) S8 HL.out hx3
      have c2 := fun w5 (g5 : w.grownBy w5 none) d e (hO : IntsAt w5 d (ansL xs S true)) => tk1_any N d e (ansL xs S true) Bk Bs b o c0 (pw N xs.length) (svB N xs.length q) w5 hO (ans_game HGM.out S true) (by rw [ans_len]) (HK.out.grown g5)
      have c4 := fun w5 (g5 : w.grownBy w5 none) d e (hO : IntsAt w5 d (ansL xs S false)) => tk1_any N d e (ansL xs S false) Bk Bs b o c0 (pw N xs.length) (svB N xs.length q) w5 hO (ans_game HGM.out S false) (by rw [ans_len]) (HK.out.grown g5)
      rw [code_ans HGM.out] at c2 c4
      have hbo : Hid (S < M → (svB N xs.length q (ansN N xs.length (codeL N xs) S true) && svB N xs.length q (ansN N xs.length (codeL N xs) S false)) = false) := fun hlt => HM.out.1 S hlt
      have hby : Hid (S = M → (svB N xs.length q (ansN N xs.length (codeL N xs) S true) && svB N xs.length q (ansN N xs.length (codeL N xs) S false)) = true ∧ fnd = true) := fun e => by
        rcases HM.out.2 with ⟨h1, _, h2⟩ | ⟨_, h1⟩
        · rw [e]; exact ⟨h2, h1⟩
        · omega
      have HS := Lib.hid hS
      have G := Lib.hid hgr
      have HW : Hid (∀ s y, (ansL xs s y).length ≤ maxLen) := fun s y => by rw [ans_len]; have := HL.out; unfold maxLen; omega
      clear hS hgr hlt hx3 S8
      generalize svB N xs.length q (ansN N xs.length (codeL N xs) S true) = bT at *
      generalize svB N xs.length q (ansN N xs.length (codeL N xs) S false) = bF at *
      go_wp2_with fail
      refine c1.mono ?_
      rintro e w5 ⟨d1, e1, rfl, hO5, g5⟩
      clear c1
      have c2 := c2 w5 (grownBy_trans G.out g5) d1 e1 (hO5.at (HW.out _ _))
      have G5 := Lib.hid (grownBy_trans G.out g5)
      clear hO5
      go_wp2_with fail
      refine c2.mono ?_
      rintro e w6 ⟨rfl, g6⟩
      clear c2
      have G6 := Lib.hid (grownBy_trans G5.out g6)
      cases bT
      · have hne : Hid (S ≠ M) := fun e => by have := (hby.out e).1; simp at this
        clear c3 c4
        go_wp2_with fail
        go_roundw
        case rel => exact ⟨S + 1, by have := hne.out; have := HS.out; omega, by go_num, G6.out⟩
        case measure => have := hne.out; have := HS.out; simp [intOf]; omega
      · have c3 := c3 w6 (grownBy_trans g5 g6)
        clear g5 g6
        go_wp2_with fail
        refine c3.mono ?_
        rintro e w7 ⟨d2, e2, rfl, hO7, g7⟩
        clear c3
        have c4 := c4 w7 (grownBy_trans G6.out g7) d2 e2 (hO7.at (HW.out _ _))
        have G7 := Lib.hid (grownBy_trans G6.out g7)
        clear hO7 g7
        go_wp2_with fail
        refine c4.mono ?_
        rintro e w8 ⟨rfl, g8⟩
        clear c4
        have G8 := Lib.hid (grownBy_trans G7.out g8)
        clear g8
        cases bF
        · have hne : Hid (S ≠ M) := fun e => by have := (hby.out e).1; simp at this
          go_wp2_with fail
          go_roundw
          case rel => exact ⟨S + 1, by have := hne.out; have := HS.out; omega, by go_num, G8.out⟩
          case measure => have := hne.out; have := HS.out; simp [intOf]; omega
        · have heq : Hid (S = M) := by
            unfold Hid
            by_cases e : S < M
            · have := hbo.out e; simp at this
            · have := HS.out; omega
          have hf : Hid (fnd = true) := (hby.out heq.out).2
          go_wp2_with fail
          go_ret2
          exact ⟨by rw [hf.out, ← heq.out]; rfl, G8.out⟩
    · have e1 : Hid (fnd = false) := by
        unfold Hid
        rcases HM.out.2 with ⟨_, h1, _⟩ | ⟨h1, _⟩
        · omega
        · exact h1
      have sP : ¬ ((S : Int) < P) := by have := hPn.out; omega
      clear hS hlt
      go_wp2_with fail
      go_ret2
      exact ⟨by rw [e1.out]; rfl, hgr⟩

end Go.Proofs.Ythfikgaghinfbaa
