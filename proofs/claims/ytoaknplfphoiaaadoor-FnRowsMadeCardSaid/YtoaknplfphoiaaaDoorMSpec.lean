/-
  The model's RowSaid, SayableOk, CountSayable. No condition but that a row which was handed over can be read.
-/
import Derived.Test.YtoaknplfphoiaaaDoorASpec
import Derived.Test.YtoaknplfphoiaaaDoorRow
import Derived.Test.YtoaknplfphoiaaaDoorGcd
import Derived.Test.YtoaknplfphoiaaaDoorSay
namespace Go.Proofs.YtoaknplfphoiaaaDoor
open Go.RowKit

def saidTo (N : Nat) (t : Tr) (k : Nat) : List Int := (List.range k).map fun (v : Nat) => t.val N (v : Int) v v
theorem saidTo_len (N : Nat) (t : Tr) (k : Nat) : (saidTo N t k).length = k := by unfold saidTo; simp
theorem saidTo_next (N : Nat) (t : Tr) (k : Nat) : saidTo N t (k + 1) = saidTo N t k ++ [t.val N k k k] := by unfold saidTo; rw [List.range_succ, List.map_append]; rfl
theorem saidTo_at (N : Nat) (t : Tr) {k v : Nat} (h : v < k) : (saidTo N t k).getD v 0 = t.val N v v v := by unfold saidTo; simp [List.getD_eq_getElem?_getD, h]
def saidL (n : Int) (l : List UInt8) : List Int :=
  match fOf l with
  | some t => if inB n 1 6 = true then saidTo n.toNat t (n.toNat + 1) else []
  | none => []
theorem saidL_n {n : Int} {l : List UInt8} (h : fOf l = none) : saidL n l = [] := by unfold saidL; rw [h]
theorem saidL_o {n : Int} {l : List UInt8} (h : inB n 1 6 = false) : saidL n l = [] := by unfold saidL; rw [h]; cases fOf l <;> rfl
theorem saidL_t {N : Nat} {l : List UInt8} {t : Tr} (h : fOf l = some t) (hi : inB N 1 6 = true) : saidL N l = saidTo N t (N + 1) := by unfold saidL; rw [h]; simp only [hi]; rfl

def SaRel (N : Nat) (t : Tr) (w : World) (v i : Value) (wr : World) : Prop :=
  ∃ k : Nat, k ≤ N + 1 ∧ i = .int .i64 k ∧ wr.ownsRow w.heap.size 3 1 v (saidTo N t k).length ((saidTo N t k).map (Value.int .i64)) ∧ w.grownBy wr none

theorem ssaid_no (n : Int) (s : ByteArray) (w : World) (h : leastI n (bl s) = -1) :
    Calls Tryd.prog 12 #[.int .i64 n, .string s] w (IntsPost [] w) := by
  have c1 := fun w => sleast_any n s w
  rw [h] at c1
  clear h
  have hO := Lib.hid (OwnI.made w)
  by_cases h0 : 0 ≤ n
  · go_enter Tryd.func12, Tryd.ntmps12
    go_wp2_with fail
    go_loopw [5, 6] (fun v i wr => v = .slice (some ⟨w.heap.size, 0, none⟩) 0 0 ∧ i = .int .i64 0 ∧ wr = w.alloc (.cells #[] 3)) (fun _ _ _ => 0)
    case atStart => exact ⟨rfl, rfl, rfl⟩
    case round =>
      obtain ⟨rfl, rfl, rfl⟩ := hrel
      go_wp2_with fail
      refine (c1 _).mono ?_
      rintro e w1 ⟨rfl, g1⟩
      clear c1
      go_wp2_with fail
      go_ret
      exact ⟨_, _, rfl, hO.out.kept g1, grownBy_trans (World.grownBy_alloc _ _ none) g1⟩
  · clear c1
    go_enter Tryd.func12, Tryd.ntmps12
    go_wp2_with fail
    go_loopw [5, 6] (fun v i wr => v = .slice (some ⟨w.heap.size, 0, none⟩) 0 0 ∧ i = .int .i64 0 ∧ wr = w.alloc (.cells #[] 3)) (fun _ _ _ => 0)
    case atStart => exact ⟨rfl, rfl, rfl⟩
    case round =>
      obtain ⟨rfl, rfl, rfl⟩ := hrel
      go_wp2_with fail
      go_ret
      exact ⟨_, _, rfl, hO.out, World.grownBy_alloc _ _ none⟩

set_option maxRecDepth 100000 in
set_option maxHeartbeats 4000000 in
theorem ssaid_yes (N : Nat) (hN : 1 ≤ N ∧ N ≤ 6) (s : ByteArray) (w : World) {t : Tr} (ho : fOf (bl s) = some t) :
    Calls Tryd.prog 12 #[.int .i64 N, .string s] w (IntsPost (saidTo N t (N + 1)) w) := by
  obtain ⟨i0, hi, hz0, hz1, hz2⟩ := info_parts infoInt
  have c1 := fun w => sleast_any N s w
  rw [leastI_t ho (inB_nat hN)] at c1
  have l0 : 0 ≤ lowU N t (cub N) := by have := vokB_of (lowU_ok hN t (cub N)); omega
  obtain ⟨hs, hl⟩ := fOf_some ho
  have hsz : s.size ≤ 1048576 := by rw [bl_size, hs]; omega
  have cv : Hid (∀ (v : Nat), v ≤ N → ∀ (w : World), Calls Tryd.prog 33 #[.int .i64 N, .string s, .int .i64 v, .int .i64 v, .int .i64 v] w fun e w' => e = .returned (.int .i64 (t.val N v v v)) ∧ w = w') := fun v hv w => sv_all (thrB_mk (vokB_t (by omega)) (vokB_t (by omega)) (vokB_t (by omega))) t s w hs hsz
  clear ho hs hl hsz
  generalize lowU N t (cub N) = L at *
  go_enter Tryd.func12, Tryd.ntmps12
  go_wp2_with fail
  go_loopw [5, 6] (fun v i wr => SaRel N t w v i wr) (fun _ i _ => N + 1 - (intOf i).toNat)
  case atStart => exact ⟨0, by omega, rfl, OwnI.made w, World.grownBy_alloc w _ none⟩
  case round =>
    obtain ⟨k, hk, rfl, hown, hgr⟩ := hrel
    by_cases hlt : k ≤ N
    · have c2 := cv.out k hlt
      have hlen := saidTo_len N t k
      have hnx := Lib.hid (saidTo_next N t k)
      go_wp2_with fail
      refine (c1 _).mono ?_
      rintro e w1 ⟨rfl, g1⟩
      replace hown := World.ownsRow.kept hown g1 (by cases Value.ownBlock _ <;> simp)
      replace hgr := grownBy_trans hgr g1
      clear g1
      generalize t.val N k k k = V at *
      go_wp2_with (first
        | (go_at_call 33; refine (c2 _).mono ?_; rintro e w2 ⟨rfl, rfl⟩)
        | (at_builtin; refine wpList_append_own _ rfl _ _ 25 rfl w.heap.size 3 i0 (.int .i64 0) 1 8 Tryd.underlying25 hi hz0 hz1 hz2 rfl (by decide) _ _ _ rfl (World.ownsRow.alloc hown _) ⟨w1.heap.size, 0, none⟩ 1 1 [.int .i64 V] rfl rfl ?c1 ?c2 ?c3 ?c4 ?c5 ?_))
      case c1 =>
        intro j u hj
        match j, hj with
        | 0, hj => simp at hj; subst hj; simp [Addr.add]
      case c2 => intro u hu; simp at hu; subst hu; rfl
      case c3 => unfold maxLen; omega
      case c4 => omega
      case c5 => have := hgr.size; simp; omega
      intro v' w3 hown' hgrow _
      have hA := World.ownsRow.alloc hown (.cells #[.int .i64 V] 3)
      have hG := Lib.hid (grownBy_row (grownBy_trans hgr (World.grownBy_alloc w1 (.cells #[.int .i64 V] 3) none)) hA (Nat.le_refl _) hgrow)
      have Ho : Hid (w3.ownsRow w.heap.size 3 1 v' (saidTo N t (k + 1)).length ((saidTo N t (k + 1)).map (Value.int .i64))) := by
        unfold Hid
        rw [hnx.out]
        simpa [saidTo_len] using hown'
      clear hown hown' hgrow hA hgr hlen
      go_wp2
      go_roundw
      case rel => exact ⟨k + 1, by omega, by go_num, Ho.out, hG.out⟩
      case measure => simp [intOf]; omega
    · obtain rfl : k = N + 1 := by omega
      obtain ⟨a, cap, rfl, _, hO⟩ := ownI_shape hown
      have HO := Lib.hid hO
      clear hown hO cv
      go_wp2_with fail
      go_ret
      exact ⟨a, cap, rfl, HO.out, hgr⟩

theorem ssaid_any (n : Int) (s : ByteArray) (w : World) :
    Calls Tryd.prog 12 #[.int .i64 n, .string s] w (IntsPost (saidL n (bl s)) w) := by
  cases hi : inB n 1 6
  · rw [saidL_o hi]; exact ssaid_no n s w (leastI_o hi)
  · cases ho : fOf (bl s) with
    | none => rw [saidL_n ho]; exact ssaid_no n s w (leastI_n ho)
    | some t =>
      obtain ⟨N, rfl, hN⟩ := nat_of hi
      rw [saidL_t ho hi]
      exact ssaid_yes N hN s w ho

/-! Rows that may be said. -/
def sayAt (n : Int) (xs : List Int) (v : Nat) : Bool := inB (xs.getD v 0) 0 n && (xs.getD v 0 % ((Nat.gcd v n.toNat : Nat) : Int) == 0)
def sayB (n : Int) (xs : List Int) : Bool := inB n 1 6 && (decide ((xs.length : Int) = n + 1) && (List.range xs.length).all fun v => sayAt n xs v)
theorem sayB_of {n : Int} {xs : List Int} (h : sayB n xs = true) : (1 ≤ n ∧ n ≤ 6) ∧ (xs.length : Int) = n + 1 ∧ ∀ v, v < xs.length → sayAt n xs v = true := by
  unfold sayB at h
  rw [Bool.and_eq_true, Bool.and_eq_true, List.all_eq_true] at h
  exact ⟨inB_of h.1, of_decide_eq_true h.2.1, fun v hv => h.2.2 v (List.mem_range.2 hv)⟩
theorem sayB_mk {n : Int} {xs : List Int} (h1 : 1 ≤ n ∧ n ≤ 6) (h2 : (xs.length : Int) = n + 1) (h3 : ∀ v, v < xs.length → sayAt n xs v = true) : sayB n xs = true := by
  unfold sayB
  rw [Bool.and_eq_true, Bool.and_eq_true, List.all_eq_true]
  exact ⟨inB_t h1, decide_eq_true h2, fun v hv => h3 v (List.mem_range.1 hv)⟩
theorem sayB_no {n : Int} {xs : List Int} {v : Nat} (hv : v < xs.length) (h : sayAt n xs v = false) : sayB n xs = false := by
  cases e : sayB n xs
  · rfl
  · have := (sayB_of e).2.2 v hv
    rw [h] at this; cases this
theorem sayB_f {n : Int} {xs : List Int} (h : ¬ (xs.length : Int) = n + 1) : sayB n xs = false := by
  cases e : sayB n xs
  · rfl
  · exact absurd (sayB_of e).2.1 h
theorem sayB_o {n : Int} {xs : List Int} (h : inB n 1 6 = false) : sayB n xs = false := by unfold sayB; rw [h]; rfl
def SyRel (n : Int) (xs : List Int) (w : World) (i : Value) (wr : World) : Prop := ∃ k : Nat, k ≤ xs.length ∧ i = .int .i64 k ∧ (∀ j, j < k → sayAt n xs j = true) ∧ w.grownBy wr none

set_option maxRecDepth 100000 in
set_option maxHeartbeats 4000000 in
theorem ssay_any (n : Int) (a : Option Addr) (cap : Nat) (xs : List Int) (w : World) (h : IntsAt w a xs) :
    Calls Tryd.prog 16 #[.int .i64 n, .slice a xs.length cap] w fun e w' => e = .returned (.bool (sayB n xs)) ∧ w.grownBy w' none := by
  have hm := h.1
  unfold maxLen at hm
  have H := Lib.hid h
  clear h
  have ci := fun w => in_any n 1 6 w
  cases hi : inB n 1 6
  · rw [sayB_o hi]
    rw [hi] at ci
    clear hi
    go_enter Tryd.func16, Tryd.ntmps16
    go_wp2_with (go_at_call 44; refine (ci _).mono ?_; rintro e w' ⟨rfl, rfl⟩)
    go_ret
    exact ⟨rfl, grownBy_refl _ _⟩
  · rw [hi] at ci
    obtain ⟨N, rfl, hN⟩ := nat_of hi
    clear hi
    by_cases hl : (xs.length : Int) = (N : Int) + 1
    · have hl2 : xs.length = N + 1 := by omega
      have HL := Lib.hid hl2
      have g0 : ((xs.length : Int) != (N : Int) + 1) = false := by simp; omega
      clear hl hl2
      go_enter Tryd.func16, Tryd.ntmps16
      go_wp2_with (go_at_call 44; refine (ci _).mono ?_; rintro e w' ⟨rfl, rfl⟩)
      clear g0 ci
      go_loopw [5] (fun i wr => SyRel N xs w i wr) (fun i _ => N + 1 - (intOf i).toNat)
      case atStart => exact ⟨0, by omega, rfl, fun j hj => absurd hj (by omega), grownBy_refl _ _⟩
      case round =>
        obtain ⟨k, hk, rfl, hb, hgr⟩ := hrel
        have Hb := Lib.hid hb
        clear hb
        by_cases hlt : k ≤ N
        · have hkl : k < xs.length := by have := HL.out; omega
          rcases (H.out.grown hgr).2 with h0 | ⟨bx, ox, rfl, hbx, hcx⟩
          · rw [h0] at hkl; simp at hkl
          have hc := hcx k hkl
          have i0 : (0 : Int) ≤ (k : Int) := by omega
          have i1 : (k : Int) < (xs.length : Int) := by omega
          have hG : 0 < Nat.gcd k N := Nat.gcd_pos_of_pos_right _ (by omega)
          have hno := Lib.hid (fun h => sayB_no (n := (N : Int)) hkl h)
          have hyes : Hid (sayAt N xs k = true → ∀ j, j < k + 1 → sayAt N xs j = true) := fun h j hj => by
            by_cases e : j = k
            · rw [e]; exact h
            · exact Hb.out j (by omega)
          have hdef : Hid (sayAt N xs k = (inB (xs.getD k 0) 0 N && (xs.getD k 0 % ((Nat.gcd k N : Nat) : Int) == 0))) := rfl
          have cg : ∀ w, Calls Tryd.prog 43 #[.int .i64 k, .int .i64 N] w fun e w' => e = .returned (.int .i64 ((Nat.gcd k N : Nat) : Int)) ∧ w = w' := fun w => common_any k N (by omega) (by omega) w
          have cq := fun w => in_any (xs.getD k 0) 0 N w
          have hb0 : wr.drew.cell? ⟨bx, ox + k, none⟩ = some (.int .i64 (xs.getD k 0)) := hc
          clear hcx hbx hc
          generalize Nat.gcd k N = G at *
          have hG0 : ¬ ((G : Int) = 0) := by omega
          generalize xs.getD k 0 = q at *
          have Q1 : ∀ {b : Bool} (w : World) (m : Nat), (∀ w, Calls Tryd.prog 44 #[.int .i64 q, .int .i64 0, .int .i64 N] w fun e w' => e = .returned (.bool b) ∧ w = w') → Calls Tryd.prog 44 #[.int .i64 q, .int .i64 0, .int .i64 N] (w.drewN m) fun e w'' => e = .returned (.bool b) ∧ ∃ m, w'' = w.drewN m := fun w m h => Calls.quiet_of_same ((h _).mono fun _ _ p => ⟨p.1, p.2.symm⟩)
          have Q2 : ∀ (w : World) (m : Nat), Calls Tryd.prog 43 #[.int .i64 k, .int .i64 N] (w.drewN m) fun e w'' => e = .returned (.int .i64 G) ∧ ∃ m, w'' = w.drewN m := fun w m => Calls.quiet_of_same ((cg _).mono fun _ _ p => ⟨p.1, p.2.symm⟩)
          have hcc : wr.cell? ⟨bx, ox + k, none⟩ = some (.int .i64 q) := hb0
          clear hb0 cg
          cases hq : inB q 0 N
          · rw [hq] at cq
            have hz : Hid (sayB N xs = false) := hno.out (by rw [hdef.out, hq]; rfl)
            go_wp2_with fail
            go_quiet (first | (go_at_call 44; exact Q1 _ _ cq) | (go_at_call 43; exact Q2 _ _))
            go_wp2
            go_ret
            exact ⟨by rw [hz.out]; rfl, grownBy_drewN hgr _⟩
          · rw [hq] at cq
            have q0 := inB_of hq
            have hmod : q.tmod G = q % G := by rw [Int.tmod_eq_emod_of_nonneg q0.1]
            by_cases hm : q % (G : Int) = 0
            · have hn := Lib.hid (hyes.out (by rw [hdef.out, hq, hm]; rfl))
              go_wp2_with fail
              go_quiet (first | (go_at_call 44; exact Q1 _ _ cq) | (go_at_call 43; exact Q2 _ _))
              go_wp2
              go_roundw
              case rel => exact ⟨k + 1, by omega, by go_num, hn.out, grownBy_drewN hgr _⟩
              case measure => simp [intOf]; omega
            · have hm2 : (q % (G : Int) == 0) = false := by simpa using hm
              have hz : Hid (sayB N xs = false) := hno.out (by rw [hdef.out, hq, hm2]; rfl)
              go_wp2_with fail
              go_quiet (first | (go_at_call 44; exact Q1 _ _ cq) | (go_at_call 43; exact Q2 _ _))
              go_wp2
              go_ret
              exact ⟨by rw [hz.out]; rfl, grownBy_drewN hgr _⟩
        · have hke : k = xs.length := by have := HL.out; omega
          have hz : Hid (sayB N xs = true) := sayB_mk (by omega) (by have := HL.out; omega) (by rw [← hke]; exact Hb.out)
          have hkN : k = N + 1 := by have := HL.out; omega
          clear hke
          subst hkN
          go_wp2_with fail
          go_ret
          exact ⟨by rw [hz.out]; rfl, hgr⟩
    · rw [sayB_f hl]
      have g0 : ((xs.length : Int) != (N : Int) + 1) = true := by simp; omega
      clear hl
      go_enter Tryd.func16, Tryd.ntmps16
      go_wp2_with (go_at_call 44; refine (ci _).mono ?_; rintro e w' ⟨rfl, rfl⟩)
      go_ret
      exact ⟨rfl, grownBy_refl _ _⟩

end Go.Proofs.YtoaknplfphoiaaaDoor
