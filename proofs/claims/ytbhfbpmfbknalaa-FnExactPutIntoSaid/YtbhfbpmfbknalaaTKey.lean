/-
  Arrays as keys of a map: which tables are keys, however the entries lie. The function literals of readings.
-/
import Derived.Test.YtbhfbpmfbknalaaTTab
import Derived.Test.YtbhfbpmfbknalaaSignMap
import Derived.Maps.Own
import Derived.Maps.OwnSet
import Derived.Maps.Views
import Derived.Maps.Range
import Derived.Maps.RangeWalk
import Derived.MapViews
import Derived.DeepKeys4
import Derived.ProofKit
namespace Go.Proofs.Ytbhfbpmfbknalaa
open Go.RowKit Go.Maps

theorem laidOut9 : laidOutB Try.prog = true := by kernel_rfl
theorem row9 : (59 : TypeId) < Try.prog.types.size := of_decide_eq_true (by kernel_rfl)
theorem deep9 : Try.prog.keyTypeAt (Try.prog.types.size + 1) 59 = true := by kernel_rfl
theorem wide9 : (match Try.prog.underlying 59 with | some (.array _ _) | some (.struct _) => true | _ => false) = true := by rw [Try.underlying59]
theorem law9 : Keyed Try.prog 59 := Keyed.of_law (deep_law_laid laidOut9 (m := 2) (by omega) row9 (by kernel_rfl) wide9)
theorem cells9 : Try.prog.cellsOf 59 = 9 := by kernel_rfl
theorem cells1 : Try.prog.cellsOf 3 = 1 := by kernel_rfl
theorem formed9 (f : Nat → Int) : (a9 f).formed Try.prog 59 = true := by simp [a9, c9, Value.formed, Try.underlying59, cells9]
/-- What an array reads as, as a key. -/
def k9 (f : Nat → Int) : Lit := (DataW.agg ((List.range 9).map fun i => .lit (.int .i64 (f i))) : DataW Unit).asKey
theorem mapM_all {α β : Type} {g : α → Option β} {h : α → β} : ∀ l : List α, (∀ x ∈ l, g x = some (h x)) → l.mapM g = some (l.map h)
  | [], _ => rfl
  | a :: l, H => by
    rw [List.mapM_cons, H a (by simp), mapM_all l fun x hx => H x (by simp [hx])]
    rfl
theorem wf_ok3 {f : Nat → Int} (h : ok3 f) {k : Nat} (hk : k < 9) : (Lit.int .i64 (f k)).wf = true := by
  have := h k hk
  exact WalkArith.wf_i64 (by omega)
theorem key9 {f : Nat → Int} (h : ok3 f) (w : World) : keyOf Try.prog 59 (a9 f) = some (k9 f) := by
  have hT : DataW.Trod (fun _ => ()) Try.prog w 0 (fun _ => true) true 59 (a9 f) (.agg ((List.range 9).map fun i => .lit (.int .i64 (f i)))) [] := by
    refine ⟨2, ?_⟩
    have hl : (a9 f).cells.toList = v9 f := rfl
    rw [hl]
    unfold DataW.trod
    rw [Try.underlying59]
    simp only []
    have e9 : (v9 f).length = Try.prog.cellsOf 59 := by rw [cells9]; rfl
    rw [if_pos e9, mapM_all (h := fun i => ((.lit (.int .i64 (f i)), []) : DataW Unit × List MemPlace)) (List.range 9) (fun i hi => ?_)]
    · simp [List.range, List.range.loop]
    · have hi9 := List.mem_range.1 hi
      have hw := wf_ok3 h hi9
      rw [cells1, Nat.mul_one]
      have hd : ((v9 f).drop i).take 1 = [.int .i64 (f i)] := by
        match i, hi9 with
        | 0, _ => rfl
        | 1, _ => rfl
        | 2, _ => rfl
        | 3, _ => rfl
        | 4, _ => rfl
        | 5, _ => rfl
        | 6, _ => rfl
        | 7, _ => rfl
        | 8, _ => rfl
      rw [hd]
      unfold DataW.trod
      rw [Try.underlying3]
      simp [hw]
  exact (keyOf_asKey deep9 wide9 (formed9 f) hT).1
theorem k9_lit {f : Nat → Int} (h : ok3 f) : WideAt.IsKeyLit (k9 f) := law9.key (key9 h default)
theorem c9_inj {f g : Nat → Int} (h : c9 f = c9 g) {k : Nat} (hk : k < 9) : f k = g k := by
  have h1 := c9_at f hk
  rw [h, c9_at g hk] at h1
  simpa using h1.symm
theorem k9_inj {f g : Nat → Int} (hf : ok3 f) (hg : ok3 g) (h : k9 f = k9 g) {k : Nat} (hk : k < 9) : f k = g k := by
  have e := law9.inj (key9 hf default) (h ▸ key9 hg default)
  exact c9_inj (Value.agg.inj e) hk

/-- The keys of a map are just these tables. -/
structure KeysF {H : Type} (D : DataW H) (L : List (Nat → Int)) : Prop where
  tidy : Maps.Tidy D
  ok : ∀ f ∈ L, ok3 f
  hasK : ∀ kl, Maps.has D kl = true ↔ ∃ f ∈ L, kl = k9 f
theorem keysF_none {H : Type} : KeysF (DataW.map [] : DataW H) [] := ⟨tidy_empty, fun _ h => by simp at h, fun kl => by simp [Maps.has_eq]⟩
theorem keysF_put {H : Type} {D : DataW H} {L : List (Nat → Int)} (h : KeysF D L) {f : Nat → Int} (hf : ok3 f) (d : DataW H) : KeysF (D.put (k9 f) d) (L ++ [f]) where
  tidy := h.tidy.put (k9_lit hf) d
  ok := fun g hg => by
    rcases List.mem_append.1 hg with hg | hg
    · exact h.ok g hg
    · rw [List.mem_singleton.1 hg]; exact hf
  hasK := fun kl => by
    by_cases e : kl = k9 f
    · subst e
      rw [has_put_same h.tidy.isMap (k9_lit hf)]
      exact ⟨fun _ => ⟨f, by simp, rfl⟩, fun _ => rfl⟩
    · rw [has_put_other e, h.hasK kl]
      constructor
      · rintro ⟨g, hg, rfl⟩
        exact ⟨g, by simp [hg], rfl⟩
      · rintro ⟨g, hg, rfl⟩
        rcases List.mem_append.1 hg with hg | hg
        · exact ⟨g, hg, rfl⟩
        · rw [List.mem_singleton.1 hg] at e; exact absurd rfl e

/-! What is read where a value is unknown. -/
def uF (p : Int) (k : Nat) : Int := if ((k / 3 : Nat) : Int) = 1 then p else ((k / 3 : Nat) : Int)
def vF (q : Int) (k : Nat) : Int := if ((k % 3 : Nat) : Int) = 1 then q else ((k % 3 : Nat) : Int)
def rdF (x : Nat → Int) (p q : Int) : Nat → Int := putF x (uF p) (vF q)
theorem uF_ok {p : Int} (h : 0 ≤ p ∧ p ≤ 2) : ok3 (uF p) := fun k hk => by
  unfold uF
  split <;> omega
theorem vF_ok {q : Int} (h : 0 ≤ q ∧ q ≤ 2) : ok3 (vF q) := fun k hk => by
  unfold vF
  split <;> omega
theorem rdF_ok {x : Nat → Int} (hx : ok3 x) {p q : Int} (hp : 0 ≤ p ∧ p ≤ 2) (hq : 0 ≤ q ∧ q ≤ 2) : ok3 (rdF x p q) := putF_ok hx (uF_ok hp) (vF_ok hq)

theorem rd1_any (a b p : Int) (B : Nat) (w : World) (h : w.cell? ⟨B, 0, none⟩ = some (.int .i64 p)) :
    Calls Try.prog 76 #[.int .i64 a, .int .i64 b, .pointer (some ⟨B, 0, none⟩)] w fun e w' => e = .returned (.int .i64 (if a = 1 then p else a)) ∧ w = w' := by
  have c1 := fun w => known_any a p w
  generalize (if a = 1 then p else a) = r at *
  go_enter Try.func76, Try.ntmps76
  go_wp2_with (go_at_call 77; refine (c1 _).mono ?_; rintro e w' ⟨rfl, rfl⟩)
  go_ret
  exact ⟨rfl, rfl⟩
theorem rd2_any (a b q : Int) (B : Nat) (w : World) (h : w.cell? ⟨B, 0, none⟩ = some (.int .i64 q)) :
    Calls Try.prog 78 #[.int .i64 a, .int .i64 b, .pointer (some ⟨B, 0, none⟩)] w fun e w' => e = .returned (.int .i64 (if b = 1 then q else b)) ∧ w = w' := by
  have c1 := fun w => known_any b q w
  generalize (if b = 1 then q else b) = r at *
  go_enter Try.func78, Try.ntmps78
  go_wp2_with (go_at_call 77; refine (c1 _).mono ?_; rintro e w' ⟨rfl, rfl⟩)
  go_ret
  exact ⟨rfl, rfl⟩
theorem u_any (p : Int) (B : Nat) (w : World) (h : w.cell? ⟨B, 0, none⟩ = some (.int .i64 p)) :
    Calls Try.prog 51 #[.func (.func 76) #[] #[.pointer (some ⟨B, 0, none⟩)]] w (A9Post (uF p) w) :=
  nine_any 76 #[.pointer (some ⟨B, 0, none⟩)] (uF p) w (fun args w => by kernel_rfl) fun w2 g k _ =>
    (rd1_any ((k / 3 : Nat) : Int) ((k % 3 : Nat) : Int) p B w2 (g.cell h (by simp))).mono fun _ _ q => ⟨q.1, by rw [q.2]; exact grownBy_refl _ _⟩
theorem v_any (q : Int) (B : Nat) (w : World) (h : w.cell? ⟨B, 0, none⟩ = some (.int .i64 q)) :
    Calls Try.prog 51 #[.func (.func 78) #[] #[.pointer (some ⟨B, 0, none⟩)]] w (A9Post (vF q) w) :=
  nine_any 78 #[.pointer (some ⟨B, 0, none⟩)] (vF q) w (fun args w => by kernel_rfl) fun w2 g k _ =>
    (rd2_any ((k / 3 : Nat) : Int) ((k % 3 : Nat) : Int) q B w2 (g.cell h (by simp))).mono fun _ _ q => ⟨q.1, by rw [q.2]; exact grownBy_refl _ _⟩

end Go.Proofs.Ytbhfbpmfbknalaa
