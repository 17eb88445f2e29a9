import Derived.Test.YtjbhegakgdcldaaJ7
import Derived.Laws.IdiomStrings
set_option linter.unusedSimpArgs false
set_option linter.unusedVariables false
set_option maxRecDepth 100000
namespace Go.Proofs.Ytjbhegakgdcldaa
open Go.RowKit

/-! bytes.Equal; what a slot's bytes hold. -/
theorem rb_string {W : World} {b off n cap : Nat} {l : List UInt8} (h : Rb W (.slice (some ⟨b, off, none⟩) n cap) l) (hn : l.length = n) : (convert 58 9 (.slice (some ⟨b, off, none⟩) n cap)).run Try.prog W = .ok (.string ⟨l.toArray⟩) W := by
  obtain ⟨ad, c, e, hle, hm, hc⟩ := h
  simp at e
  obtain ⟨rfl, rfl, rfl⟩ := e
  have e := run_convert_bytes_arg (P := Try.prog) W 58 5 Try.underlying58 Try.underlying5 b off l.length cap (l.map fun x => (x.toNat : Int)) (by simp) (fun i hi => by
    obtain ⟨b', off', e1, e2⟩ := hc i hi
    simp at e1
    obtain ⟨rfl, rfl⟩ := e1
    rw [e2]
    simp [hi]) 9 Try.underlying9
  rw [str_of] at e
  exact e
theorem rb_sub {W : World} {b off n cap : Nat} {l : List UInt8} (h : Rb W (.slice (some ⟨b, off, none⟩) n cap) l) (i j c : Nat) (hij : i ≤ j) (hj : j ≤ n) (hc : j - i ≤ c) : Rb W (.slice (some ⟨b, off + i, none⟩) (j - i) c) ((l.drop i).take (j - i)) := by
  obtain ⟨ad, c', e, hle, hm, hcl⟩ := h
  simp at e
  obtain ⟨rfl, rfl, rfl⟩ := e
  have hl : ((l.drop i).take (j - i)).length = j - i := by simp; omega
  refine ⟨some ⟨b, off + i, none⟩, c, by rw [hl], by omega, by omega, fun k hk => ?_⟩
  obtain ⟨b', off', e1, e2⟩ := hcl (i + k) (by omega)
  simp at e1
  obtain ⟨rfl, rfl⟩ := e1
  refine ⟨b, off + i, rfl, ?_⟩
  rw [Nat.add_assoc, e2]
  simp
set_option maxHeartbeats 1000000 in
theorem equal10 (W : World) (b off n c b' off' n' c' : Nat) (l l' : List UInt8) (h : Rb W (.slice (some ⟨b, off, none⟩) n c) l) (hn : l.length = n) (h' : Rb W (.slice (some ⟨b', off', none⟩) n' c') l') (hn' : l'.length = n') :
    Calls Try.prog 90 #[.slice (some ⟨b, off, none⟩) n c, .slice (some ⟨b', off', none⟩) n' c'] W fun e w' => e = .returned (.bool (decide (l = l'))) ∧ w' = W := by
  have e1 := rb_string h hn
  have e2 := rb_string h' hn'
  have e3 : decide (l = l') = (l == l') := by rw [Bool.eq_iff_iff, beq_iff_eq, decide_eq_true_iff]
  rw [e3]
  clear e3
  clear h h'
  go_enter Try.func90, Try.ntmps90
  go_wp2_with fail
  go_ret
  exact ⟨rfl, rfl⟩
end Go.Proofs.Ytjbhegakgdcldaa
