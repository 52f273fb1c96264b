/-
  The model's FollowsFrom. No condition.
-/
import Derived.Test.YtdofeahbgodopaaSPrem2
namespace Go.Proofs.Ytdofeahbgodopaa
open Go.RowKit

theorem sff_no1 (n : Int) (a : Option Addr) (cap : Nat) (ss : List ByteArray) (s : ByteArray) (w : World) (h : StrsAt w a ss) (ho : premB (ss.map bl) = false) :
    Calls Try.prog 19 #[.int .i64 n, .slice a ss.length cap, .string s] w fun e w' => e = .returned (.bool false) ∧ w = w' := by
  have cp := sprem_any a cap ss w h
  rw [ho] at cp
  clear h ho
  go_enter Try.func19, Try.ntmps19
  go_wp2_with (go_at_call 15; refine cp.mono ?_; clear cp; rintro e w1 ⟨rfl, rfl⟩)
  go_ret
  exact ⟨rfl, rfl⟩
theorem sff_no2 (n : Int) (a : Option Addr) (cap : Nat) (ss : List ByteArray) (s : ByteArray) (w : World) (h : StrsAt w a ss) (ho : premB (ss.map bl) = true) (hi : inB n 1 6 = false ∨ fOf (bl s) = none) :
    Calls Try.prog 19 #[.int .i64 n, .slice a ss.length cap, .string s] w fun e w' => e = .returned (.bool false) ∧ w = w' := by
  have cp := sprem_any a cap ss w h
  have cl := sleast_no n s w hi
  rw [ho] at cp
  clear h ho hi
  go_enter Try.func19, Try.ntmps19
  go_wp2_with (first | (go_at_call 15; refine cp.mono ?_; clear cp; rintro e w1 ⟨rfl, rfl⟩) | (go_at_call 20; refine cl.mono ?_; clear cl; rintro e w1 ⟨rfl, rfl⟩))
  go_ret
  exact ⟨rfl, rfl⟩

def SfRel (N : Nat) (ts : List Tr) (t : Tr) (w : World) (i : Value) (wr : World) : Prop := ∃ k : Nat, k ≤ cub N ∧ i = .int .i64 k ∧ (∀ j, j < k → allK N ts j = true → truK N t j = true) ∧ w.grownBy wr none

set_option maxRecDepth 100000 in
set_option maxHeartbeats 4000000 in
theorem sff_yes (N : Nat) (hN : 1 ≤ N ∧ N ≤ 6) (a : Option Addr) (cap : Nat) (ss : List ByteArray) (s : ByteArray) (w : World) (h : StrsAt w a ss) {ts : List Tr} {t : Tr} (ho : prOf (ss.map bl) = some ts) (ht : fOf (bl s) = some t) :
    Calls Try.prog 19 #[.int .i64 N, .slice a ss.length cap, .string s] w fun e w' => e = .returned (.bool (folK N ts t)) ∧ w.grownBy w' none := by
  have cp := sprem_any a cap ss w h
  rw [premB_t ho] at cp
  have cl := sleast_yes N hN s w ht
  have l0 : 0 ≤ lowU N t (cub N) := by have := vokB_of (lowU_ok hN t (cub N)); omega
  obtain ⟨hs, hl⟩ := fOf_some ht
  have hsz : s.size ≤ 1048576 := by rw [bl_size, hs]; omega
  have cv : ∀ (k : Nat) (w : World), Calls Try.prog 49 #[.int .i64 N, .string s, .int .i64 (tA N k), .int .i64 (tB N k), .int .i64 (tC N k)] w fun e w' => e = .returned (.int .i64 (atK N t k)) ∧ w = w' := fun k w => sv_all (tri_ok hN k) t s w hs hsz
  have Hh := Lib.hid h
  have Ho := Lib.hid ho
  clear h ho ht hs hl hsz
  have hc := cub_le hN.2
  obtain ⟨M, m1, m2⟩ := cub_q hN
  have m0 : ¬ ((N : Int) + 1 = 0) := by omega
  generalize lowU N t (cub N) = L at *
  go_enter Try.func19, Try.ntmps19
  go_wp2_with (first | (go_at_call 15; refine cp.mono ?_; clear cp; rintro e w1 ⟨rfl, rfl⟩) | (go_at_call 20; refine cl.mono ?_; clear cl; rintro e w1 ⟨rfl, g1⟩))
  go_loopw [8] (fun i wr => SfRel N ts t w i wr) (fun i _ => cub N - (intOf i).toNat)
  case atStart => exact ⟨0, by omega, rfl, fun j hj => absurd hj (by omega), g1⟩
  case round =>
    obtain ⟨k, hk, rfl, hT, hgr⟩ := hrel
    have HT := Lib.hid hT
    clear hT
    by_cases hlt : k < cub N
    · obtain ⟨D, d0, d1, p0, p1, p2, p3⟩ := place_q hlt
      have a0 := tA_le N k
      have b0 := tB_le N k
      have c0 := tC_le N k
      have z1 : IntKind.i64.wrap D = D := IntWalk.i64_in _ (by omega)
      have z2 : IntKind.i64.wrap (tA N k : Int) = tA N k := IntWalk.i64_in _ (by omega)
      have z3 : IntKind.i64.wrap (tB N k : Int) = tB N k := IntWalk.i64_in _ (by omega)
      have z4 : IntKind.i64.wrap (tC N k : Int) = tC N k := IntWalk.i64_in _ (by omega)
      have ca : ∀ n, Calls Try.prog 48 #[.int .i64 N, .slice a ss.length cap, .int .i64 (tA N k), .int .i64 (tB N k), .int .i64 (tC N k)] (wr.drewN n) fun e w' => e = .returned (.bool (allK N ts k)) ∧ ∃ m, w' = wr.drewN m :=
        fun n => (sall_any N hN k a cap ss ts Ho.out (wr.drewN n) (Hh.out.grown (grownBy_drewN hgr n))).mono fun e w' h => ⟨h.1, n, h.2.symm⟩
      have cvk : ∀ n, Calls Try.prog 49 #[.int .i64 N, .string s, .int .i64 (tA N k), .int .i64 (tB N k), .int .i64 (tC N k)] (wr.drewN n) fun e w' => e = .returned (.int .i64 (atK N t k)) ∧ ∃ m, w' = wr.drewN m :=
        fun n => (cv k (wr.drewN n)).mono fun e w' h => ⟨h.1, n, h.2.symm⟩
      clear cv
      cases hv : allK N ts k
      · rw [hv] at ca
        have hn : Hid (∀ j, j < k + 1 → allK N ts j = true → truK N t j = true) := fun j hj hj2 => by
          by_cases e : j = k
          · rw [e, hv] at hj2; cases hj2
          · exact HT.out j (by omega) hj2
        clear hv cvk
        go_wp2
        go_quiet (first | (go_at_call 48; exact ca _))
        go_wp2
        go_roundw
        case rel => exact ⟨k + 1, by omega, by go_num, hn.out, grownBy_drewN hgr _⟩
        case measure => simp [intOf]; omega
      · rw [hv] at ca
        cases hu : truK N t k
        · have e : Hid (folK N ts t = false) := folK_no hlt hv hu
          have hat := truK_lt hN hu
          clear hv hu
          generalize atK N t k = q at *
          go_wp2
          go_quiet (first | (go_at_call 48; exact ca _) | (go_at_call 49; exact cvk _))
          go_wp2
          go_ret
          exact ⟨by rw [e.out]; rfl, grownBy_drewN hgr _⟩
        · have hn : Hid (∀ j, j < k + 1 → allK N ts j = true → truK N t j = true) := fun j hj hj2 => by
            by_cases e : j = k
            · rw [e]; exact hu
            · exact HT.out j (by omega) hj2
          rw [truK_eq hu] at cvk
          clear hv hu
          go_wp2
          go_quiet (first | (go_at_call 48; exact ca _) | (go_at_call 49; exact cvk _))
          go_wp2
          go_roundw
          case rel => exact ⟨k + 1, by omega, by go_num, hn.out, grownBy_drewN hgr _⟩
          case measure => simp [intOf]; omega
    · obtain rfl : k = cub N := by omega
      have e : Hid (folK N ts t = true) := folK_mk fun j hj hj2 => HT.out j hj hj2
      go_wp2
      go_ret
      exact ⟨by rw [e.out]; rfl, hgr⟩

theorem sff_any (n : Int) (a : Option Addr) (cap : Nat) (ss : List ByteArray) (s : ByteArray) (w : World) (h : StrsAt w a ss) :
    Calls Try.prog 19 #[.int .i64 n, .slice a ss.length cap, .string s] w fun e w' => e = .returned (.bool (folI n (ss.map bl) (bl s))) ∧ w.grownBy w' none := by
  cases ho : prOf (ss.map bl) with
  | none => rw [folI_p ho]; exact (sff_no1 n a cap ss s w h (premB_f ho)).mono fun e w' ⟨h1, h2⟩ => ⟨h1, by rw [h2]; exact grownBy_refl _ _⟩
  | some ts =>
    cases hi : inB n 1 6
    · rw [folI_o hi]; exact (sff_no2 n a cap ss s w h (premB_t ho) (.inl hi)).mono fun e w' ⟨h1, h2⟩ => ⟨h1, by rw [h2]; exact grownBy_refl _ _⟩
    · cases hf : fOf (bl s) with
      | none => rw [folI_n hf]; exact (sff_no2 n a cap ss s w h (premB_t ho) (.inr hf)).mono fun e w' ⟨h1, h2⟩ => ⟨h1, by rw [h2]; exact grownBy_refl _ _⟩
      | some t =>
        obtain ⟨N, rfl, hN⟩ := nat_of hi
        rw [folI_t ho hf hi]
        exact sff_yes N hN a cap ss s w h ho hf

end Go.Proofs.Ytdofeahbgodopaa
