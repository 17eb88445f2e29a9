/- Texts joined: RNm MkX RB7a. -/
import Derived.Test.YtapjonmgjccpbaaJ11
import Derived.Test.YtapjonmgjccpbaaJ22
import Derived.Test.YtapjonmgjccpbaaJ17
import Derived.Test.YtapjonmgjccpbaaJ0
import Derived.Test.YtapjonmgjccpbaaJ23
import Derived.Deep.RegionHeld3
import Derived.Deep.DeepCutAuto
section
set_option linter.unusedSimpArgs false
set_option linter.unusedVariables false
namespace Go.Proofs.Ytapjonmgjccpbaa
open Go.RowKit

/-! tarnref7.text, tarnref7.number. -/
theorem rtxt (s : ByteArray) (w : World) : Calls Try.prog 57 #[.string s] w fun e w' => e = .returned (tI s) ∧ Below w.heap.size w w' := by
  go_enter Try.func57, Try.ntmps57
  go_wp2
  refine bodyPost_ret (v := tI s) ?_ rfl ⟨rfl, ?_⟩
  · simp [results, Try.results57, go_sem]
  · exact (Below.refl _ _).alloc (Nat.le_refl _) _
set_option maxRecDepth 100000 in
theorem rnumber (n : Nat) (h : n ≤ 9223372036854775807) (w : World) : Calls Try.prog 60 #[.int .i64 (n : Int)] w fun e w' => e = .returned (tI (nT n)) ∧ Below w.heap.size w w' := by
  have HO : Hid (∀ w, Calls Try.prog 77 #[.int .i64 n] w fun e w' => e = .returned (V n) ∧ Below w.heap.size w w') := fun w => rofn n h w
  have HT : Hid (∀ w, Calls Try.prog 61 #[V n] w fun e w' => e = .returned (.string (nT n)) ∧ Below w.heap.size w w') := fun w => rtext n (by unfold M256; omega) w
  have HX : Hid (∀ w, Calls Try.prog 57 #[.string (nT n)] w fun e w' => e = .returned (tI (nT n)) ∧ Below w.heap.size w w') := fun w => rtxt _ w
  generalize nT n = s at *
  clear h
  go_enter Try.func60, Try.ntmps60
  go_wp2_with fail
  refine (HO.out _).mono ?_
  rintro e w1 ⟨rfl, hb1⟩
  go_wp2_with fail
  refine (HT.out _).mono ?_
  rintro e w2 ⟨rfl, hb2⟩
  go_wp2_with fail
  refine (HX.out _).mono ?_
  rintro e w3 ⟨rfl, hb3⟩
  have hs1 := hb1.size
  have hs2 := hb2.size
  have hs3 := hb3.size
  simp only [World.size_alloc] at hs1
  have hb13 : Below (w.alloc (.cells #[.bool false, .string ⟨#[]⟩, .slice none 0 0] 70)).heap.size (w.alloc (.cells #[.bool false, .string ⟨#[]⟩, .slice none 0 0] 70)) w3 := (hb1.trans (hb2.mono hb1.size)).trans (hb3.mono (Nat.le_trans hb1.size hb2.size))
  have bR : Bk w3 w.heap.size #[.bool false, .string ⟨#[]⟩, .slice none 0 0] 70 := (Bk.new w _ _).below hb13 (by simp)
  have hB : Below w.heap.size w w3 := ((Below.refl _ w).alloc (Nat.le_refl _) _).trans (hb13.mono (by simp))
  have r0 := bR.cell 0
  have r1 := bR.cell 1
  have r2 := bR.cell 2
  have f0 := bR.frozen 0
  have f1 := bR.frozen 1
  have f2 := bR.frozen 2
  simp only [List.getElem?_toArray, List.getElem?_cons_zero, List.getElem?_cons_succ] at r0 r1 r2
  have lR := bR.lt
  have HB : Hid (Below w.heap.size w w3) := hB
  clear hb1 hb2 hb3 hb13 hB bR
  go_wp2_with fail
  refine bodyPost_ret (v := tI s) ?_ rfl ⟨rfl, ?_⟩
  · simp [results, Try.results60, go_sem, r0, r1, r2]
  · exact ((HB.out.setCell (p := ⟨w.heap.size, 0, none⟩) (by simp) _).setCell (p := ⟨w.heap.size, 1, none⟩) (by simp) _).setCell (p := ⟨w.heap.size, 2, none⟩) (by simp) _
end Go.Proofs.Ytapjonmgjccpbaa
end
section
set_option linter.unusedSimpArgs false
set_option linter.unusedVariables false
namespace Go.Proofs.Ytapjonmgjccpbaa
open Go.RowKit

/-! tarnref4.MarkText. -/
set_option maxRecDepth 100000 in
set_option maxHeartbeats 1000000 in
theorem rmtext (m : Nat) (hm : m < 18446744073709551616) (w : World) :
    Calls Try.prog 58 #[.int .u64 (m : Int)] w fun e w' => e = .returned (.string ⟨(mbs m).toArray⟩) ∧ Below w.heap.size w w' := by
  obtain ⟨i0, hi, hz0, hz1, hz2⟩ := info_of info5
  go_enter Try.func58, Try.ntmps58
  go_wp2
  go_loopw [3, 4] (fun b i wr => ∃ (k : Nat), k ≤ 8 ∧ i = .int .i64 ((k : Int) - 1) ∧ Ow wr w.heap.size b ((mbs m).take (8 - k)) ∧ Below w.heap.size w wr) (fun _ i _ => (intOf i + 1).toNat)
  case atStart => exact ⟨8, by omega, rfl, Ow.nil _ _, Below.refl _ _⟩
  case round =>
    obtain ⟨k, hk, rfl, hown, hbl⟩ := hrel
    have hsz2 := hbl.size
    cases k with
    | zero =>
      have hcv := hown.string
      rw [List.take_of_length_le (by rw [mbs_length]; omega)] at hcv
      go_wp2
      go_ret
      exact ⟨rfl, hbl⟩
    | succ i =>
      have e : ((i + 1 : Nat) : Int) - 1 = (i : Int) := by omega
      rw [e]
      clear e
      have hv := mb_val m i
      have hlt := mb_lt m i
      have HST : Hid ((mbs m).take (8 - i) = (mbs m).take (8 - (i + 1)) ++ [UInt8.ofNat (mb m i)]) := mbs_take m i (by omega)
      have hl : ((mbs m).take (8 - (i + 1))).length = 8 - (i + 1) := by rw [List.length_take, mbs_length]; omega
      obtain ⟨ad, cap, rfl, hcap⟩ := hown.shape
      have hown : wr.ownsRow w.heap.size 5 1 (.slice ad ((mbs m).take (8 - (i + 1))).length cap) ((mbs m).take (8 - (i + 1))).length (bc ((mbs m).take (8 - (i + 1)))) := hown
      rw [hl] at hown ⊢
      go_wp2_with (at_builtin; refine wpList_append_own _ rfl _ _ 51 rfl w.heap.size 5 i0 (.int .u8 0) 1 1 Try.underlying51 hi hz0 hz1 hz2 rfl (by decide) _ (8 - (i + 1)) _ rfl (hown.alloc _) ⟨wr.heap.size, 0, none⟩ 1 1 [.int .u8 (mb m i : Int)] rfl rfl (cell_one_new _ _ _) (by simp [Value.oneCell']) (by unfold maxLen; omega) (by omega) (by simp; omega) ?_; intro v1 w1 hown1 hgrow1 hnil1)
      go_roundw
      case rel =>
        refine ⟨i, by omega, rfl, ?_, ?_⟩
        · rw [HST.out]
          unfold Ow
          rw [bc_append, List.length_append, hl]
          have e2 : bc [UInt8.ofNat (mb m i)] = [.int .u8 (mb m i : Int)] := by simp [bc]; omega
          rw [e2]
          exact hown1
        · exact (hbl.alloc hsz2 _).grown hgrow1 (by simp; omega) (fun j hj => owns_ge hown hj)
      case measure => simp [intOf]
end Go.Proofs.Ytapjonmgjccpbaa
end
section
set_option linter.unusedSimpArgs false
set_option linter.unusedVariables false
namespace Go.Proofs.Ytapjonmgjccpbaa
open Go.RowKit

/-! tarnref7.Bytes. -/
def c27 (t : TX) (h g : Value) : Array Value := #[.bool false, .string (nT t.fr.toNat), .slice none 0 0, .bool false, .string (nT t.no.toNat), .slice none 0 0, .bool false, .string (nT t.ti), .slice none 0 0, .bool false, .string (nT t.ca), .slice none 0 0, .bool false, .string (nT t.bc), .slice none 0 0, .bool false, .string (nT t.va), .slice none 0 0, .bool false, .string (nT t.ga.toNat), .slice none 0 0, .bool true, .string ⟨#[]⟩, h, .bool true, .string ⟨#[]⟩, g]
/-- What the last statement reads. -/
def S7 (X : Nat) (t : TX) (h g : Value) (w0 w' : World) : Prop := w'.cell? ⟨X, 0, none⟩ = some (.int .i64 t.fr) ∧ w'.cell? ⟨X, 1, none⟩ = some (.int .i64 t.no) ∧ w'.cell? ⟨X, 2, none⟩ = some (.int .u64 (lb t.ti 0)) ∧ w'.cell? ⟨X, 3, none⟩ = some (.int .u64 (lb t.ti 1)) ∧ w'.cell? ⟨X, 4, none⟩ = some (.int .u64 (lb t.ti 2)) ∧ w'.cell? ⟨X, 5, none⟩ = some (.int .u64 (lb t.ti 3)) ∧ w'.cell? ⟨X, 6, none⟩ = some (.int .u64 (lb t.ca 0)) ∧ w'.cell? ⟨X, 7, none⟩ = some (.int .u64 (lb t.ca 1)) ∧ w'.cell? ⟨X, 8, none⟩ = some (.int .u64 (lb t.ca 2)) ∧ w'.cell? ⟨X, 9, none⟩ = some (.int .u64 (lb t.ca 3)) ∧ w'.cell? ⟨X, 10, none⟩ = some (.int .u64 (lb t.bc 0)) ∧ w'.cell? ⟨X, 11, none⟩ = some (.int .u64 (lb t.bc 1)) ∧ w'.cell? ⟨X, 12, none⟩ = some (.int .u64 (lb t.bc 2)) ∧ w'.cell? ⟨X, 13, none⟩ = some (.int .u64 (lb t.bc 3)) ∧ w'.cell? ⟨X, 14, none⟩ = some (.int .u64 (lb t.va 0)) ∧ w'.cell? ⟨X, 15, none⟩ = some (.int .u64 (lb t.va 1)) ∧ w'.cell? ⟨X, 16, none⟩ = some (.int .u64 (lb t.va 2)) ∧ w'.cell? ⟨X, 17, none⟩ = some (.int .u64 (lb t.va 3)) ∧ w'.cell? ⟨X, 18, none⟩ = some (.int .i64 t.ga) ∧ w'.cell? ⟨X + 1, 0, none⟩ = some (.bool true) ∧ w'.cell? ⟨X + 1, 1, none⟩ = some (.string ⟨#[]⟩) ∧ w'.cell? ⟨X + 1, 2, none⟩ = some (h) ∧ w'.cell? ⟨X + 1 + 1, 0, none⟩ = some (.bool true) ∧ w'.cell? ⟨X + 1 + 1, 1, none⟩ = some (.string ⟨#[]⟩) ∧ w'.cell? ⟨X + 1 + 1, 2, none⟩ = some (g) ∧ Below w0.heap.size w0 w'
theorem S7.below {X : Nat} {t : TX} {h g : Value} {w0 w w' : World} (H : S7 X t h g w0 w) (hb : Below w.heap.size w w') : S7 X t h g w0 w' := by
  obtain ⟨h0, h1, h2, h3, h4, h5, h6, h7, h8, h9, h10, h11, h12, h13, h14, h15, h16, h17, h18, h19, h20, h21, h22, h23, h24, hB⟩ := H
  exact ⟨(hb.cell (cell_lt' h0)).trans h0, (hb.cell (cell_lt' h1)).trans h1, (hb.cell (cell_lt' h2)).trans h2, (hb.cell (cell_lt' h3)).trans h3, (hb.cell (cell_lt' h4)).trans h4, (hb.cell (cell_lt' h5)).trans h5, (hb.cell (cell_lt' h6)).trans h6, (hb.cell (cell_lt' h7)).trans h7, (hb.cell (cell_lt' h8)).trans h8, (hb.cell (cell_lt' h9)).trans h9, (hb.cell (cell_lt' h10)).trans h10, (hb.cell (cell_lt' h11)).trans h11, (hb.cell (cell_lt' h12)).trans h12, (hb.cell (cell_lt' h13)).trans h13, (hb.cell (cell_lt' h14)).trans h14, (hb.cell (cell_lt' h15)).trans h15, (hb.cell (cell_lt' h16)).trans h16, (hb.cell (cell_lt' h17)).trans h17, (hb.cell (cell_lt' h18)).trans h18, (hb.cell (cell_lt' h19)).trans h19, (hb.cell (cell_lt' h20)).trans h20, (hb.cell (cell_lt' h21)).trans h21, (hb.cell (cell_lt' h22)).trans h22, (hb.cell (cell_lt' h23)).trans h23, (hb.cell (cell_lt' h24)).trans h24, hB.trans (hb.mono hB.size)⟩
theorem S7.drew {X : Nat} {t : TX} {h g : Value} {w0 w : World} (H : S7 X t h g w0 w) : S7 X t h g w0 w.drew := H.below ((Below.refl _ w).drew)
theorem S7.alloc {X : Nat} {t : TX} {h g : Value} {w0 w : World} (H : S7 X t h g w0 w) (o : Obj) : S7 X t h g w0 (w.alloc o) := H.below ((Below.refl _ w).alloc (Nat.le_refl _) o)
theorem S7.bel {X : Nat} {t : TX} {h g : Value} {w0 w : World} (H : S7 X t h g w0 w) : Below w0.heap.size w0 w := by
  obtain ⟨-, -, -, -, -, -, -, -, -, -, -, -, -, -, -, -, -, -, -, -, -, -, -, -, -, hB⟩ := H
  exact hB
theorem rd_nilB (w : World) (n : Nat) : Rd w (n + 1) [] (.slice none 0 0) := ⟨by simp, none, 0, rfl, fun i hi => by simp at hi⟩
/-- The nine items, in one block. -/
theorem rd_nine {W : World} {B : Nat} {t : TX} {a b : Option Addr} {c d n m : Nat} (hb : Bk W B (c27 t (.slice a n c) (.slice b m d)) 70) (h1 : Rd W 2 (hsI t) (.slice a n c)) (h2 : Rd W 2 (bsI t) (.slice b m d)) : Rd W 3 (txI t).items (.slice (some ⟨B, 0, none⟩) 9 9) := by
  refine ⟨by simp [txI, IT.items], some ⟨B, 0, none⟩, 9, rfl, fun i hi => ⟨B, 0, rfl, ?_⟩⟩
  have hi9 : i < 9 := hi
  have hc : ∀ j, W.cell? ⟨B, j, none⟩ = (c27 t (.slice a n c) (.slice b m d))[j]? := fun j => hb.cell j
  have : i = 0 ∨ i = 1 ∨ i = 2 ∨ i = 3 ∨ i = 4 ∨ i = 5 ∨ i = 6 ∨ i = 7 ∨ i = 8 := by omega
  rcases this with rfl | rfl | rfl | rfl | rfl | rfl | rfl | rfl | rfl
  · exact ⟨_, hc _, hc _, hc _, ⟨_, _, _, rfl⟩, rd_nilB _ _⟩
  · exact ⟨_, hc _, hc _, hc _, ⟨_, _, _, rfl⟩, rd_nilB _ _⟩
  · exact ⟨_, hc _, hc _, hc _, ⟨_, _, _, rfl⟩, rd_nilB _ _⟩
  · exact ⟨_, hc _, hc _, hc _, ⟨_, _, _, rfl⟩, rd_nilB _ _⟩
  · exact ⟨_, hc _, hc _, hc _, ⟨_, _, _, rfl⟩, rd_nilB _ _⟩
  · exact ⟨_, hc _, hc _, hc _, ⟨_, _, _, rfl⟩, rd_nilB _ _⟩
  · exact ⟨_, hc _, hc _, hc _, ⟨_, _, _, rfl⟩, rd_nilB _ _⟩
  · exact ⟨_, hc _, hc _, hc _, ⟨_, _, _, rfl⟩, h1⟩
  · exact ⟨_, hc _, hc _, hc _, ⟨_, _, _, rfl⟩, h2⟩
end Go.Proofs.Ytapjonmgjccpbaa
end
