/-
  What is asked of a desk's formula behind the deed 'basic', and what follows of itself: as plain lists of bytes. No program is named.
-/
import Derived.Test.YtnkebgkocpeonaaDesk
import Derived.Test.YtnkebgkocpeonaaPrem
namespace Go.Proofs.Ytnkebgkocpeonaa

theorem bas_same {n : Int} {s : List UInt8} (hn : inB n 1 6 = true) (h : basB s = true) : sameI n (basT s) s = true := by
  obtain ⟨N, rfl, hN⟩ := nat_of hn
  obtain ⟨t, ht, hl, hb⟩ := basB_of h
  have hu : fOf (basT s) = some t.bas := by rw [hb]; exact fOf_txt hl
  rw [sameI_t hu ht hn]
  refine sameT_mk fun k _ => ?_
  exact val_bas (tri_ok hN k) t
theorem basic_same {d e : Dk} {a : Dd} (hd : dkB d = true) (ha : a.1 = 5) (h : doD d a = some e) : sameI d.1.1 e.1.2 d.1.2 = true := by
  obtain ⟨hb, he⟩ := do_basic ha h
  rw [he]
  exact bas_same (ldB_of (dkB_of hd).2.1).1 hb

theorem from_own {n : Int} {s : List UInt8} (hn : inB n 1 6 = true) (h : isF s = true) : folI n [s] s = true := by
  obtain ⟨N, rfl, hN⟩ := nat_of hn
  obtain ⟨t, ht⟩ := isF_of h
  have hp : prOf [s] = some [t] := by rw [prOf_s (by simp)]; exact fsOf_cons ht rfl
  rw [folI_t hp ht hn]
  exact folK_mem (by simp)
theorem from_zero {n : Int} {s : List UInt8} (hn : inB n 1 6 = true) (h : isF s = true) : folI n [[48]] s = true := by
  obtain ⟨N, rfl, hN⟩ := nat_of hn
  obtain ⟨t, ht⟩ := isF_of h
  have hz : fOf [48] = some (.tru false) := fOf_txt (t := .tru false) (by decide)
  have hp : prOf [[48]] = some [.tru false] := by rw [prOf_s (by simp)]; exact fsOf_cons hz rfl
  rw [folI_t hp ht hn]
  refine folK_mk fun k _ ha => ?_
  have e : truK N (.tru false) k = false := by
    unfold truK
    have : atK N (.tru false) k = 0 := rfl
    rw [this]
    exact beq_false_of_ne (by omega)
  have : allK N [.tru false] k = (truK N (.tru false) k && true) := rfl
  rw [this, e] at ha
  cases ha

end Go.Proofs.Ytnkebgkocpeonaa
