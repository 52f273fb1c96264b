/-
  impl's toldByAll: what all keys of a map of tables tell, in whatever order they come.
-/
import Derived.Test.YtbhfbpmfbknalaaTRead
namespace Go.Proofs.Ytbhfbpmfbknalaa
open Go.RowKit Go.Maps

def loF (L : List (Nat → Int)) (k : Nat) : Int := L.foldr (fun f m => if f k ≤ m then f k else m) 2
def hiF (L : List (Nat → Int)) (k : Nat) : Int := L.foldr (fun f m => if m ≤ f k then f k else m) 0
/-- What all of them tell, and unknown where they do not tell the same. -/
def tdF (L : List (Nat → Int)) (k : Nat) : Int := if loF L k = hiF L k then loF L k else 1
theorem loF_spec (k : Nat) : ∀ L : List (Nat → Int), loF L k ≤ 2 ∧ (∀ f ∈ L, loF L k ≤ f k) ∧ (loF L k = 2 ∨ ∃ f ∈ L, f k = loF L k)
  | [] => ⟨by unfold loF; simp, fun _ h => by simp at h, .inl rfl⟩
  | f :: L => by
    obtain ⟨h1, h2, h3⟩ := loF_spec k L
    have e : loF (f :: L) k = if f k ≤ loF L k then f k else loF L k := rfl
    rw [e]
    split
    · rename_i hc
      refine ⟨by omega, fun g hg => ?_, .inr ⟨f, by simp, rfl⟩⟩
      rcases List.mem_cons.1 hg with rfl | hg
      · omega
      · have := h2 g hg; omega
    · rename_i hc
      refine ⟨h1, fun g hg => ?_, h3.imp id fun ⟨g, hg, e⟩ => ⟨g, by simp [hg], e⟩⟩
      rcases List.mem_cons.1 hg with rfl | hg
      · omega
      · exact h2 g hg
theorem hiF_spec (k : Nat) : ∀ L : List (Nat → Int), 0 ≤ hiF L k ∧ (∀ f ∈ L, f k ≤ hiF L k) ∧ (hiF L k = 0 ∨ ∃ f ∈ L, f k = hiF L k)
  | [] => ⟨by unfold hiF; simp, fun _ h => by simp at h, .inl rfl⟩
  | f :: L => by
    obtain ⟨h1, h2, h3⟩ := hiF_spec k L
    have e : hiF (f :: L) k = if hiF L k ≤ f k then f k else hiF L k := rfl
    rw [e]
    split
    · rename_i hc
      refine ⟨by omega, fun g hg => ?_, .inr ⟨f, by simp, rfl⟩⟩
      rcases List.mem_cons.1 hg with rfl | hg
      · omega
      · have := h2 g hg; omega
    · rename_i hc
      refine ⟨h1, fun g hg => ?_, h3.imp id fun ⟨g, hg, e⟩ => ⟨g, by simp [hg], e⟩⟩
      rcases List.mem_cons.1 hg with rfl | hg
      · omega
      · exact h2 g hg
/-- What is known when some keys are still to come. -/
def SoFar (L : List (Nat → Int)) (left : Lit → Bool) (k : Nat) (l h : Int) : Prop :=
  l ≤ 2 ∧ 0 ≤ h ∧ (∀ f ∈ L, left (k9 f) = false → l ≤ f k ∧ f k ≤ h) ∧ (l = 2 ∨ ∃ f ∈ L, f k = l) ∧ (h = 0 ∨ ∃ f ∈ L, f k = h)
theorem soFar_end {L : List (Nat → Int)} {left : Lit → Bool} {k : Nat} {l h : Int} (H : SoFar L left k l h) (hl : ∀ kl, left kl = false) : l = loF L k ∧ h = hiF L k := by
  obtain ⟨a1, a2, a3, a4, a5⟩ := H
  obtain ⟨b1, b2, b3⟩ := loF_spec k L
  obtain ⟨c1, c2, c3⟩ := hiF_spec k L
  constructor
  · have q1 : l ≤ loF L k := by
      rcases b3 with e | ⟨f, hf, e⟩
      · omega
      · have := (a3 f hf (hl _)).1; omega
    have q2 : loF L k ≤ l := by
      rcases a4 with e | ⟨f, hf, e⟩
      · omega
      · have := b2 f hf; omega
    omega
  · have q1 : hiF L k ≤ h := by
      rcases c3 with e | ⟨f, hf, e⟩
      · omega
      · have := (a3 f hf (hl _)).2; omega
    have q2 : h ≤ hiF L k := by
      rcases a5 with e | ⟨f, hf, e⟩
      · omega
      · have := c2 f hf; omega
    omega
theorem soFar_start {L : List (Nat → Int)} {left : Lit → Bool} (k : Nat) (h : ∀ f ∈ L, left (k9 f) = true) : SoFar L left k 2 0 :=
  by
  unfold SoFar
  exact ⟨by omega, by omega, fun f hf e => (by rw [h f hf] at e; cases e), .inl rfl, .inl rfl⟩
theorem soFar_step {L : List (Nat → Int)} {left : Lit → Bool} {k : Nat} {l h l' h' : Int} (H : SoFar L left k l h) (hok : ∀ f ∈ L, ok3 f) {f : Nat → Int} (hf : f ∈ L) (hk : k < 9)
    (e1 : (l' = l ∧ l ≤ f k) ∨ (l' = f k ∧ f k ≤ l)) (e2 : (h' = h ∧ f k ≤ h) ∨ (h' = f k ∧ h ≤ f k)) : SoFar L (fun z => left z && !z.sameKey (k9 f)) k l' h' := by
  obtain ⟨a1, a2, a3, a4, a5⟩ := H
  have hb := hok f hf k hk
  refine ⟨by clear a4 a5 a3; omega, by clear a4 a5 a3; omega, fun g hg e => ?_, ?_, ?_⟩
  · simp only [Bool.and_eq_false_iff] at e
    have a3 := a3 g hg
    clear a4 a5
    rcases e with e | e
    · have := a3 e; omega
    · have es : (k9 g).sameKey (k9 f) = true := by simpa using e
      have := k9_inj (hok g hg) (hok f hf) (WideAt.sameKey_eq es) hk
      omega
  · rcases e1 with ⟨rfl, _⟩ | ⟨rfl, _⟩
    · exact a4
    · exact .inr ⟨f, hf, rfl⟩
  · rcases e2 with ⟨rfl, _⟩ | ⟨rfl, _⟩
    · exact a5
    · exact .inr ⟨f, hf, rfl⟩

def TdRel (L : List (Nat → Int)) (D : DataW Value) (b n : Nat) (w : World) (i : Value) (wr : World) : Prop :=
  ∃ k : Nat, k ≤ 9 ∧ i = .int .i64 k ∧ Blk9 wr (w.heap.size + 1) (upK (tdF L) k) ∧ Blk9 wr w.heap.size (fun _ => 0) ∧ wr.ownsMap Try.prog 59 anyElem b n D ∧ w.grownBy wr none
def TdRel2 (L : List (Nat → Int)) (D : DataW Value) (b n r k : Nat) (wo : World) (lo hi : Value) (wr : World) : Prop :=
  ∃ (left : Lit → Bool) (cnt : Nat) (l h : Int), lo = .int .i64 l ∧ hi = .int .i64 h ∧ wr.ranges Try.prog 59 anyElem b r n D left cnt ∧ (∀ kl, left kl = true → Maps.has D kl = true) ∧ SoFar L left k l h ∧ wo.grownBy wr none

set_option maxHeartbeats 4000000 in
theorem told_any (L : List (Nat → Int)) (D : DataW Value) (b n : Nat) (w : World) (hK : KeysF D L) (hown : w.ownsMap Try.prog 59 anyElem b n D) :
    Calls Try.prog 56 #[.map (some b)] w (A9Post (tdF L) w) := by
  have hb0 : Blk9 ((w.alloc (.cells (c9 fun _ => 0) 59)).alloc (.cells (c9 fun _ => 0) 59)) w.heap.size (fun _ => 0) := (Blk9.new w _).grown (World.grownBy_alloc _ _ none)
  have hb1 : Blk9 ((w.alloc (.cells (c9 fun _ => 0) 59)).alloc (.cells (c9 fun _ => 0) 59)) (w.heap.size + 1) (fun _ => 0) := by simpa using Blk9.new (w.alloc (.cells (c9 fun _ => 0) 59)) (fun _ => 0)
  have hg : w.grownBy ((w.alloc (.cells (c9 fun _ => 0) 59)).alloc (.cells (c9 fun _ => 0) 59)) none := grownBy_trans (World.grownBy_alloc _ _ none) (World.grownBy_alloc _ _ none)
  have H0 := Lib.hid hb0
  have H1 := Lib.hid (hb1.eq (upK_0 (tdF L)).symm)
  have HG := Lib.hid hg
  have HO := Lib.hid (hown.kept hg (by simp))
  have hblt : b < w.heap.size := ownsMap_lt hown
  have HK := Lib.hid hK
  clear hb0 hb1 hg hown hK
  unfold A9Post a9
  go_enter Try.func56, Try.ntmps56
  go_wp2_with fail
  go_loopw [8] (fun i wr => TdRel L D b n w i wr) (fun i _ => 9 - (intOf i).toNat)
  case atStart => exact ⟨0, by omega, rfl, H1.out, H0.out, HO.out, HG.out⟩
  case round =>
    obtain ⟨k, hk, rfl, h1, h0, ho, hgr⟩ := hrel
    obtain ⟨wo, rfl⟩ : ∃ wo : World, wo = wr := ⟨_, rfl⟩
    by_cases hlt : k < 9
    · have i0 : (0 : Int) ≤ (k : Int) := by omega
      have i1 : (k : Int) < 9 := by omega
      have H1' := Lib.hid h1
      have H0' := Lib.hid h0
      have HO' := Lib.hid ho
      have HG' := Lib.hid hgr
      have HLT := Lib.hid hlt
      clear h1 h0 ho hgr hlt hk
      go_wp2_with (at_range; refine wpList_range_own _ rfl _ 71 rfl 59 4 law9 Try.underlying71 _ b n D rfl HO'.out ?_; intro w0 hrg0 hg0 hs0)
      go_frame
      go_loopw [5, 6] (fun lo hi wx => TdRel2 L D b n wo.heap.size k wo lo hi wx) (fun _ _ wx => wx.rangeLeft b wo.heap.size)
      case atStart => exact ⟨_, _, 2, 0, rfl, rfl, hrg0, fun kl h => h, soFar_start k fun f hf => (HK.out.hasK _).2 ⟨f, hf, rfl⟩, hg0⟩
      case round =>
        obtain ⟨left, cnt, l, h, rfl, rfl, hrg, hlf, hsf, hgx⟩ := hrel
        go_wp2_with (at_next; refine wpList_next_ranges (α := Value) (β := Value) _ rfl _ rfl 59 law9 anyElem id id (fun key _ _ => ⟨key, rfl⟩) (fun v _ _ => ⟨v, rfl⟩) b wo.heap.size n D left cnt rfl hrg ?done ?more)
        case done =>
          intro _ hl0
          obtain ⟨e1, e2⟩ := soFar_end hsf hl0
          have h1 := H1'.out.grown hgx
          have h0 := H0'.out.grown hgx
          have hO3 := hrg.owns
          have hG3 := grownBy_trans HG'.out hgx
          have hfr := h1.free k
          have hce := h1.cell HLT.out
          have k1 := grownBy_set wr (w.heap.size + 1) k (.int .i64 1)
          have b1 := h1.set HLT.out 1
          have b0 := h0.kept k1 (by simp)
          have o1 := hO3.kept k1 (by simp; omega)
          have G1 := grow_at hG3 k1 (by omega)
          by_cases he : l = h
          · have hbe : (l == h) = true := by simpa using he
            have htd : tdF L k = l := by unfold tdF; rw [← e1, ← e2, if_pos he]
            have k2 := grownBy_set (wr.setCell ⟨w.heap.size + 1, k, none⟩ (.int .i64 1)) (w.heap.size + 1) k (.int .i64 l)
            have c1 := b1.cell HLT.out
            have b2 := b1.set HLT.out l
            have HB1 := Lib.hid (b2.eq (c9_congr (g := upK (tdF L) (k + 1)) fun j hj => by
              rw [← upK_step, htd]
              by_cases ej : j = k
              · simp only [if_pos ej]
              · simp only [if_neg ej]))
            have HB0 := Lib.hid (b0.kept k2 (by simp))
            have HO2 := Lib.hid (o1.kept k2 (by simp; omega))
            have HG2 := Lib.hid (grow_at G1 k2 (by omega))
            clear hsf hlf hrg hl0 e1 e2 h1 h0 hO3 hG3 k1 b1 b0 o1 G1 he htd k2 b2 hgx
            go_wp2_with fail
            go_roundw
            case rel => exact ⟨k + 1, HLT.out, by go_num, HB1.out, HB0.out, HO2.out, HG2.out⟩
            case measure => simp [intOf]; have := HLT.out; omega
          · have hbe : (l == h) = false := by simpa using he
            have htd : tdF L k = 1 := by unfold tdF; rw [← e1, ← e2, if_neg he]
            have HB1 := Lib.hid (b1.eq (c9_congr (g := upK (tdF L) (k + 1)) fun j hj => by rw [← upK_step, htd]))
            have HB0 := Lib.hid b0
            have HO2 := Lib.hid o1
            have HG2 := Lib.hid G1
            clear hsf hlf hrg hl0 e1 e2 h1 h0 hO3 hG3 k1 b1 b0 o1 G1 he htd hgx
            go_wp2_with fail
            go_roundw
            case rel => exact ⟨k + 1, HLT.out, by go_num, HB1.out, HB0.out, HO2.out, HG2.out⟩
            case measure => simp [intOf]; have := HLT.out; omega
        case more =>
          intro x c kl y ps w1 cnt1 hkey hlk hR hat hrg1 hlt1 hg1 hs1 hen
          obtain ⟨f, hf, rfl⟩ := (HK.out.hasK kl).1 (hlf kl hlk)
          have hx : x = a9 f := law9.inj hkey (key9 (HK.out.ok f hf) default)
          subst hx
          have hc := (Blk9.new w1 f).cell HLT.out
          have hg2 : w1.grownBy (w1.alloc (.cells (c9 f) 59)).drew none := grownBy_drew (World.grownBy_alloc _ _ none)
          have HR1 := Lib.hid (hrg1.kept hg2 (by simp) (by simp))
          have HM := Lib.hid (show cnt1 < wr.rangeLeft b wo.heap.size by rw [hrg.left_eq]; exact hlt1)
          have HLF : Hid (∀ kl, (left kl && !kl.sameKey (k9 f)) = true → Maps.has D kl = true) := fun kl e => hlf kl (by simp at e; exact e.1)
          have HSF := Lib.hid (fun l' h' => soFar_step (l' := l') (h' := h') hsf HK.out.ok hf HLT.out)
          have HG2 := Lib.hid (grownBy_trans (grow_at hgx hg1 (Nat.le_refl _)) hg2)
          clear hkey hlk hR hat hrg1 hlt1 hg1 hs1 hrg hlf hsf hgx hg2
          unfold id a9 at *
          unfold c9 at *
          generalize f k = v at *
          by_cases q1 : l ≤ v
          · by_cases q2 : v ≤ h
            · go_wp2_with fail
              go_region
              go_roundw
              case rel => refine ⟨_, _, _, _, _, _, _, _, _, _, _, _, _, _, _, _, _, ?_, rfl⟩; exact ⟨_, cnt1, _, _, rfl, rfl, HR1.out, HLF.out, HSF.out _ _ (.inl ⟨rfl, q1⟩) (.inl ⟨rfl, q2⟩), HG2.out⟩
              case measure => rw [HR1.out.left_eq]; exact HM.out
            · go_wp2_with fail
              go_region
              go_roundw
              case rel => refine ⟨_, _, _, _, _, _, _, _, _, _, _, _, _, _, _, _, _, ?_, rfl⟩; exact ⟨_, cnt1, _, _, rfl, rfl, HR1.out, HLF.out, HSF.out _ _ (.inl ⟨rfl, q1⟩) (.inr ⟨rfl, by omega⟩), HG2.out⟩
              case measure => rw [HR1.out.left_eq]; exact HM.out
          · by_cases q2 : v ≤ h
            · go_wp2_with fail
              go_region
              go_roundw
              case rel => refine ⟨_, _, _, _, _, _, _, _, _, _, _, _, _, _, _, _, _, ?_, rfl⟩; exact ⟨_, cnt1, _, _, rfl, rfl, HR1.out, HLF.out, HSF.out _ _ (.inr ⟨rfl, by omega⟩) (.inl ⟨rfl, q2⟩), HG2.out⟩
              case measure => rw [HR1.out.left_eq]; exact HM.out
            · go_wp2_with fail
              go_region
              go_roundw
              case rel => refine ⟨_, _, _, _, _, _, _, _, _, _, _, _, _, _, _, _, _, ?_, rfl⟩; exact ⟨_, cnt1, _, _, rfl, rfl, HR1.out, HLF.out, HSF.out _ _ (.inr ⟨rfl, by omega⟩) (.inr ⟨rfl, by omega⟩), HG2.out⟩
              case measure => rw [HR1.out.left_eq]; exact HM.out
    · obtain rfl : k = 9 := by omega
      obtain ⟨a0, a1, a2, a3, a4, a5, a6, a7, a8⟩ := (h1.eq (upK_9 (tdF L))).cells
      obtain ⟨b0, b1, b2, b3, b4, b5, b6, b7, b8⟩ := h0.cells
      obtain ⟨d0, d1, d2, d3, d4, d5, d6, d7, d8⟩ := h0.frees
      have hput := Lib.hid (h0.put (tdF L))
      have HGr := Lib.hid hgr
      clear h1 h0 ho hgr
      go_wp2_with fail
      exact bodyPost_ret (res9 rfl _ rfl hput.out) rfl ⟨rfl, grows9 HGr.out⟩

end Go.Proofs.Ytbhfbpmfbknalaa
