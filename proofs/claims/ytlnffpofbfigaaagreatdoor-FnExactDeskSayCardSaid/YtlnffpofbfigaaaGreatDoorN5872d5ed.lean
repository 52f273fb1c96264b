/-
  impl's RowSaid. No condition.
-/
import Derived.Test.YtlnffpofbfigaaaGreatDoorNc9c91bd2
import Derived.Test.YtlnffpofbfigaaaGreatDoorMa5d7fcb1
import Derived.Test.YtlnffpofbfigaaaGreatDoorM323050c2
namespace Go.Proofs.YtlnffpofbfigaaaGreatDoor
open Go.RowKit

theorem said_no (n : Int) (s : ByteArray) (w : World) (h : inB n 1 6 = false ∨ fOf (bl s) = none) :
    Calls Tryz.prog 157 #[.int .i64 n, .string s] w (IntsPost [] w) := by
  have cc := chain_no n s w h
  clear h
  go_enter Tryz.func157, Tryz.ntmps157
  go_wp2_with fail
  refine cc.mono ?_
  rintro e w1 ⟨v, hv, rfl, g1⟩
  clear cc
  rcases hv with rfl | ⟨T, p, rfl⟩
  all_goals
    go_wp2_with fail
    go_ret
    exact ⟨none, 0, rfl, OwnI.nil _ _, g1⟩

def NsRel (g : Nat) (xs : List Int) (w : World) (i : Value) (wr : World) : Prop :=
  ∃ (k : Nat) (vs : List Value), k ≤ xs.length ∧ i = .int .i64 k ∧ wr.ownsRow w.heap.size 3 1 (.slice (some ⟨g, 0, none⟩) xs.length xs.length) xs.length vs ∧ (∀ j, j < k → vs[j]? = some (.int .i64 (xs.getD j 0))) ∧ w.grownBy wr none
theorem vals_all {xs : List Int} {vs : List Value} (hl : vs.length = xs.length) (h : ∀ j, j < xs.length → vs[j]? = some (.int .i64 (xs.getD j 0))) : vs = xs.map (Value.int .i64) := by
  apply List.ext_getElem (by simp [hl])
  intro i h1 h2
  have := h i (by omega)
  rw [List.getElem?_eq_getElem h1] at this
  have e := Option.some.inj this
  rw [e]
  simp only [List.getElem_map]
  rw [List.getD_eq_getElem?_getD, List.getElem?_eq_getElem (by omega), Option.getD_some]

set_option maxRecDepth 100000 in
set_option maxHeartbeats 4000000 in
theorem said_yes (N : Nat) (hN : 1 ≤ N ∧ N ≤ 6) (s : ByteArray) (w : World) {t : Tr} (ho : fOf (bl s) = some t) :
    Calls Tryz.prog 157 #[.int .i64 N, .string s] w (IntsPost (saidTo N t (N + 1)) w) := by
  obtain ⟨i0, hi, hz0, hz1, hz2⟩ := info_parts infoInt
  have cc := chain_yes s w (inB_t (n := N) (by omega)) ho
  clear ho
  have cv : Hid (∀ (v : Nat), v ≤ N → ∀ (w : World), Calls Tryz.prog 160 #[.agg #[.int .i64 N, .int .i64 v, .int .i64 v, .int .i64 v], .iface (nodeT t) (nodeP t)] w fun e w' => e = .returned (.int .i64 (t.val N v v v)) ∧ w.grownBy w' none) := fun v hv w => vt_all (thrB_mk (vokB_t (by omega)) (vokB_t (by omega)) (vokB_t (by omega))) t w
  have hlen := saidTo_len N t (N + 1)
  have hat : Hid (∀ v, v ≤ N → (saidTo N t (N + 1)).getD v 0 = t.val N v v v) := fun v hv => saidTo_at N t (by omega)
  generalize saidTo N t (N + 1) = xs at *
  go_enter Tryz.func157, Tryz.ntmps157
  go_wp2_with fail
  refine cc.mono ?_
  rintro e w1 ⟨rfl, g1⟩
  clear cc
  go_wp2_with (at_make; refine wpList_make_full _ rfl _ _ 102 rfl w.heap.size 3 i0 (.int .i64 0) 1 Tryz.underlying102 hi hz0 hz1 .i64 .i64 _ _ (N + 1) rfl rfl rfl rfl ?b2 ?b3 g1.size ?_)
  case b2 => rw [hz2]; omega
  case b3 => unfold maxLen; omega
  intro w0 hown0 hgrow0
  have hG0 := Lib.hid (grownBy_trans g1 hgrow0)
  go_wp2_with fail
  go_loopw [23] (fun i wr => NsRel w1.heap.size xs w i wr) (fun i _ => N + 1 - (intOf i).toNat)
  case atStart => exact ⟨0, _, by omega, rfl, by rw [hlen]; exact hown0, fun j hj => absurd hj (by omega), hG0.out⟩
  case round =>
    obtain ⟨k, vs, hk, rfl, hown, hxs, hgr⟩ := hrel
    rw [hlen] at hk hown
    by_cases hlt : k ≤ N
    · have c2 := cv.out k hlt
      have hat2 := Lib.hid (hat.out k hlt)
      have hxl := hown.1
      generalize t.val N k k k = q at *
      have hkeep : Hid (∀ w2, (wr.alloc (.cells #[.int .i64 N, .int .i64 k, .int .i64 k, .int .i64 k] 164)).grownBy w2 none → w2.ownsRow w.heap.size 3 1 (.slice (some ⟨w1.heap.size, 0, none⟩) (N + 1) (N + 1)) (N + 1) vs ∧ w.grownBy w2 none) := fun w2 g =>
        ⟨World.ownsRow.kept hown (grownBy_trans (World.grownBy_alloc wr _ none) g) (by cases (Value.slice (some ⟨w1.heap.size, 0, none⟩) (N + 1) (N + 1)).ownBlock <;> simp), grownBy_trans hgr (grownBy_trans (World.grownBy_alloc wr _ none) g)⟩
      have hxs2 : Hid (∀ j, j < k + 1 → (vs.set k (.int .i64 q))[j]? = some (.int .i64 (xs.getD j 0))) := fun j hj => by
        by_cases e : j = k
        · subst e; rw [List.getElem?_set_self (by omega), hat2.out]
        · rw [List.getElem?_set_ne (by omega)]; exact hxs j (by omega)
      have HL := Lib.hid hlen
      clear hown hgr hxs hlen
      go_wp2_with (go_at_call 160; refine (c2 _).mono ?_; rintro e w2 ⟨rfl, g2⟩; have O2 := Lib.hid (hkeep.out _ g2); have hfr := World.ownsRow.frozenAt O2.out.1 k; have hce := World.ownsRow.cellAt O2.out.1 k (by omega); rw [List.getElem?_eq_getElem (by omega)] at hce; obtain ⟨u, hce⟩ : ∃ u, w2.cell? ⟨w1.heap.size, k, none⟩ = some u := ⟨_, hce⟩)
      have hst := Lib.hid (World.ownsRow.stored O2.out.1 k (.int .i64 q))
      have hg2 := Lib.hid (grownBy_row O2.out.2 O2.out.1 (Nat.le_refl _) hst.out.2)
      go_roundw
      case rel => exact ⟨k + 1, _, by have := HL.out; omega, by go_num, by rw [HL.out]; exact hst.out.1, hxs2.out, hg2.out⟩
      case measure => simp [intOf]; omega
    · obtain rfl : k = N + 1 := by omega
      have hl := hown.1
      have e := vals_all (xs := xs) (vs := vs) (by omega) (by rw [hlen]; exact hxs)
      subst e
      have HO : Hid (OwnI wr w.heap.size (some ⟨w1.heap.size, 0, none⟩) (N + 1) xs) := by
        unfold Hid OwnI
        rw [hlen]
        exact hown
      have HL := Lib.hid hlen
      clear hown hxs hlen
      go_wp2_with fail
      go_ret
      exact ⟨_, N + 1, by rw [HL.out]; rfl, HO.out, hgr⟩

theorem isaid_any : SaidC := fun n s w => by
  cases hi : inB n 1 6
  · rw [saidL_o hi]; exact said_no n s w (.inl hi)
  · cases ho : fOf (bl s) with
    | none => rw [saidL_n ho]; exact said_no n s w (.inr ho)
    | some t =>
      obtain ⟨N, rfl, hN⟩ := nat_of hi
      rw [saidL_t ho hi]
      exact said_yes N hN s w ho

end Go.Proofs.YtlnffpofbfigaaaGreatDoor
