import Derived.Test.YtgolpadmcalimaaAsks
import Derived.Test.YtgolpadmcalimaaBlob
import Derived.Test.YtgolpadmcalimaaRBlob
import Derived.Test.YtgolpadmcalimaaExcess
import Derived.Test.YtgolpadmcalimaaWakes
import Derived.Deep.RegionWith
import Derived.Deep.DeepCutAuto
import Derived.Deep.CutBlock
import Derived.Deep.RegionHeld3
set_option linter.unusedSimpArgs false
set_option linter.unusedVariables false
namespace Go.Proofs.Ytgolpadmcalimaa
open Go.RowKit

/-- A number and a whole one, cell by cell. -/
def Nx5 (B b o v : Nat) (x : Int) (w' : World) : Prop := w'.cell? ⟨B, 0, none⟩ = some (.int .u64 (lb v 0)) ∧ w'.cell? ⟨B, 1, none⟩ = some (.int .u64 (lb v 1)) ∧ w'.cell? ⟨B, 2, none⟩ = some (.int .u64 (lb v 2)) ∧ w'.cell? ⟨B, 3, none⟩ = some (.int .u64 (lb v 3)) ∧ w'.cell? ⟨b, o, none⟩ = some (.int .i64 x)
theorem Nx5.below {B b o v : Nat} {x : Int} {w w' : World} (h : Nx5 B b o v x w) (hb : Below w.heap.size w w') : Nx5 B b o v x w' := by
  obtain ⟨h0, h1, h2, h3, h4⟩ := h
  exact ⟨below_at hb (cell_lt h0) h0, below_at hb (cell_lt h1) h1, below_at hb (cell_lt h2) h2, below_at hb (cell_lt h3) h3, below_at hb (cell_lt h4) h4⟩
theorem Nx5.drew {B b o v : Nat} {x : Int} {w : World} (h : Nx5 B b o v x w) : Nx5 B b o v x w.drew := h
set_option maxRecDepth 100000 in
set_option maxHeartbeats 2000000 in
theorem feeBlobs_walk (v : Value) (qs : List AskD) (w : World) (hs : Sa w v qs) :
    Calls Try.prog 4 #[v] w fun e w' => e = .returned (.bool true) ∧ Below w.heap.size w w' := by
  obtain ⟨hok, hlen, ad, cap, rfl, hat0⟩ := hs
  have HA : Hid (∀ i (hi : i < qs.length), ∃ b off, ad = some ⟨b, off, none⟩ ∧ ∀ j, j < 15 → w.cell? ⟨b, off + i * 15 + j, none⟩ = (acells qs[i])[j]?) := hat0
  have HO : Hid (∀ q ∈ qs, AskOk q) := hok
  have hlen : qs.length ≤ 9223372036854775807 := hlen
  clear hat0 hok
  go_enter Try.func4, Try.ntmps4
  go_wp2_with fail
  go_loopw [3] (fun i wr => ∃ k : Nat, k ≤ qs.length ∧ k ≤ 8 ∧ i = .int .i64 k ∧ Below w.heap.size w wr) (fun i _ => 8 - (intOf i).toNat)
  case atStart => exact ⟨0, by omega, by omega, rfl, Below.refl _ _⟩
  case round =>
    obtain ⟨k, hk1, hk2, rfl, hbo⟩ := hrel
    have hszo := hbo.size
    by_cases hlt : k < qs.length
    · by_cases hlt2 : k < 8
      · obtain ⟨b, off, rfl, hat⟩ := HA.out k hlt
        have HQ : Hid (AskOk qs[k]) := HO.out _ (List.getElem_mem hlt)
        generalize qs[k] = q at hat HQ
        obtain ⟨a, b2, c, x, u, t⟩ := q
        simp only [acells] at hat
        have hbw : b < wr.heap.size := Nat.lt_of_lt_of_le (cell_lt (hat 0 (by omega))) hszo
        have c0 : wr.cell? ⟨b, off + k * 15, none⟩ = some (.int .u64 (lb a 0)) := (hbo.cell (p := ⟨b, off + k * 15, none⟩) (cell_lt (hat 0 (by omega)))).trans (hat 0 (by omega))
        have c1 : wr.cell? ⟨b, off + k * 15 + 1, none⟩ = some (.int .u64 (lb a 1)) := (hbo.cell (p := ⟨b, off + k * 15 + 1, none⟩) (cell_lt (hat 1 (by omega)))).trans (hat 1 (by omega))
        have c2 : wr.cell? ⟨b, off + k * 15 + 2, none⟩ = some (.int .u64 (lb a 2)) := (hbo.cell (p := ⟨b, off + k * 15 + 2, none⟩) (cell_lt (hat 2 (by omega)))).trans (hat 2 (by omega))
        have c3 : wr.cell? ⟨b, off + k * 15 + 3, none⟩ = some (.int .u64 (lb a 3)) := (hbo.cell (p := ⟨b, off + k * 15 + 3, none⟩) (cell_lt (hat 3 (by omega)))).trans (hat 3 (by omega))
        have c4 : wr.cell? ⟨b, off + k * 15 + 4, none⟩ = some (.int .u64 (lb b2 0)) := (hbo.cell (p := ⟨b, off + k * 15 + 4, none⟩) (cell_lt (hat 4 (by omega)))).trans (hat 4 (by omega))
        have c5 : wr.cell? ⟨b, off + k * 15 + 5, none⟩ = some (.int .u64 (lb b2 1)) := (hbo.cell (p := ⟨b, off + k * 15 + 5, none⟩) (cell_lt (hat 5 (by omega)))).trans (hat 5 (by omega))
        have c6 : wr.cell? ⟨b, off + k * 15 + 6, none⟩ = some (.int .u64 (lb b2 2)) := (hbo.cell (p := ⟨b, off + k * 15 + 6, none⟩) (cell_lt (hat 6 (by omega)))).trans (hat 6 (by omega))
        have c7 : wr.cell? ⟨b, off + k * 15 + 7, none⟩ = some (.int .u64 (lb b2 3)) := (hbo.cell (p := ⟨b, off + k * 15 + 7, none⟩) (cell_lt (hat 7 (by omega)))).trans (hat 7 (by omega))
        have c8 : wr.cell? ⟨b, off + k * 15 + 8, none⟩ = some (.int .u64 (lb c 0)) := (hbo.cell (p := ⟨b, off + k * 15 + 8, none⟩) (cell_lt (hat 8 (by omega)))).trans (hat 8 (by omega))
        have c9 : wr.cell? ⟨b, off + k * 15 + 9, none⟩ = some (.int .u64 (lb c 1)) := (hbo.cell (p := ⟨b, off + k * 15 + 9, none⟩) (cell_lt (hat 9 (by omega)))).trans (hat 9 (by omega))
        have c10 : wr.cell? ⟨b, off + k * 15 + 10, none⟩ = some (.int .u64 (lb c 2)) := (hbo.cell (p := ⟨b, off + k * 15 + 10, none⟩) (cell_lt (hat 10 (by omega)))).trans (hat 10 (by omega))
        have c11 : wr.cell? ⟨b, off + k * 15 + 11, none⟩ = some (.int .u64 (lb c 3)) := (hbo.cell (p := ⟨b, off + k * 15 + 11, none⟩) (cell_lt (hat 11 (by omega)))).trans (hat 11 (by omega))
        have c12 : wr.cell? ⟨b, off + k * 15 + 12, none⟩ = some (.int .i64 x) := (hbo.cell (p := ⟨b, off + k * 15 + 12, none⟩) (cell_lt (hat 12 (by omega)))).trans (hat 12 (by omega))
        have c13 : wr.cell? ⟨b, off + k * 15 + 13, none⟩ = some (.int .i64 u) := (hbo.cell (p := ⟨b, off + k * 15 + 13, none⟩) (cell_lt (hat 13 (by omega)))).trans (hat 13 (by omega))
        have c14 : wr.cell? ⟨b, off + k * 15 + 14, none⟩ = some (.int .i64 t) := (hbo.cell (p := ⟨b, off + k * 15 + 14, none⟩) (cell_lt (hat 14 (by omega)))).trans (hat 14 (by omega))
        clear hat
        clear HQ
        have hN := fun w => numIn x 1099511627776 w
        cases hx : inB x 1099511627776
        · have hbl := fun w => blob_no x (inB_false hx) w
          rw [hx] at hN
          have he : ∀ w, (binOp .neq 25 (.agg (A4 0 0 0 0)) (.agg (A4 0 0 0 0))).run Try.prog w = .ok (.bool false) w := fun w => by rw [neq26, eq4_same]; rfl
          clear hx
          go_wp2_with (first | (go_at_call 16; refine (hbl _).mono ?_; rintro e w1 ⟨rfl, hb1⟩; have c12 := (hb1.cell (p := ⟨b, off + k * 15 + 12, none⟩) hbw).trans c12; have hbw1 : b < w1.heap.size := (Nat.lt_of_lt_of_le hbw hb1.size)) | (go_at_call 17; refine (hN _).mono ?_; rintro e w2 ⟨rfl, rfl⟩) | (go_at_call 14; refine (num2_any _ _).mono ?_; rintro e w3 ⟨rfl, rfl⟩))
          go_roundw
          case rel => exact ⟨k + 1, by omega, by omega, by go_num, (hbo.trans (hb1.mono (by omega))).alloc (by have := hb1.size; omega) _⟩
          case measure => simp [intOf]; omega
        · have hx' : 0 ≤ x ∧ x ≤ 1099511627776 := by simpa [inB] using hx
          obtain ⟨X, rfl⟩ := Int.eq_ofNat_of_zero_le hx'.1
          have hbl := fun w => blob X (by omega) w
          have hrb := fun w => rblob X (by omega) w
          have HRB : Hid (∀ w, Calls Try.prog 18 #[.int .i64 (X : Int)] w fun e w' => (∃ v, e = .returned (V v) ∧ BlobS X v) ∧ Below w.heap.size w w') := hrb
          rw [hx] at hN
          clear hx hrb
          go_upto_region 8 with (first | (go_at_call 16; refine (hbl _).mono ?_; rintro e w1 ⟨⟨v, rfl, hv⟩, hb1⟩; have c12 := (hb1.cell (p := ⟨b, off + k * 15 + 12, none⟩) hbw).trans c12; have hbw1 : b < w1.heap.size := (Nat.lt_of_lt_of_le hbw hb1.size)) | (go_at_call 17; refine (hN _).mono ?_; rintro e w2 ⟨rfl, rfl⟩))
          have HVV : Hid (BlobS X v) := hv
          have bV := Bk.new w1 (A4 (lb (v) 0) (lb (v) 1) (lb (v) 2) (lb (v) 3)) 25
          have hB2 := (hbo.trans (hb1.mono (by omega))).alloc (by have := hb1.size; omega) (.cells (A4 (lb (v) 0) (lb (v) 1) (lb (v) 2) (lb (v) 3)) 25)
          have d12 : (w1.alloc (.cells (A4 (lb (v) 0) (lb (v) 1) (lb (v) 2) (lb (v) 3)) 25)).cell? ⟨b, off + k * 15 + 12, none⟩ = some (.int .i64 (X : Int)) := (((Below.refl _ w1).alloc (Nat.le_refl _) _).cell (p := ⟨b, off + k * 15 + 12, none⟩) hbw1).trans c12
          obtain ⟨B1, hB1⟩ : ∃ B1, B1 = w1.heap.size := ⟨_, rfl⟩
          rw [← hB1] at bV ⊢
          clear hB1 hv hbl hN c0 c1 c2 c3 c4 c5 c6 c7 c8 c9 c10 c11 c12 c13 c14 hb1 hbw1
          generalize w1.alloc _ = w4 at *
          have hT : Nx5 B1 b (off + k * 15 + 12) v X w4 := ⟨bV.cell 0, bV.cell 1, bV.cell 2, bV.cell 3, d12⟩
          have bw : Below w4.heap.size w4 w4 := Below.refl _ _
          have he : ∀ w, (binOp .neq 25 (V v) (V v)).run Try.prog w = .ok (.bool false) w := fun w => by rw [neq26, eq4_same]; rfl
          go_cut [52] (fun q wx => q = .bool false ∧ Below w4.heap.size w4 wx)
          case first =>
            go_region_held3 (fun w' => w'.cell? ⟨B1, 0, none⟩ = some (.int .u64 (lb v 0)) ∧ w'.cell? ⟨B1, 1, none⟩ = some (.int .u64 (lb v 1)) ∧ w'.cell? ⟨B1, 2, none⟩ = some (.int .u64 (lb v 2)) ∧ w'.cell? ⟨B1, 3, none⟩ = some (.int .u64 (lb v 3)) ∧ w'.cell? ⟨b, off + k * 15 + 12, none⟩ = some (.int .i64 (X : Int))) ((show Nx5 B1 b (off + k * 15 + 12) v X _; repeat (first | with_reducible exact hT | with_reducible refine Nx5.drew ?_))) (first | (go_at_call 14; refine (num2_any _ _).mono ?_; rintro e w5 ⟨rfl, rfl⟩) | (go_at_call 18; refine (HRB.out _).mono ?_; rintro e w6 ⟨⟨v', rfl, hv'⟩, hb6⟩; obtain rfl := HVV.out.one hv'; have hT := Nx5.below (B := B1) (b := b) (o := off + k * 15 + 12) (v := v) (x := X) (by repeat (first | with_reducible exact hT | with_reducible refine Nx5.drew ?_)) hb6; have bw : Below w4.heap.size w4 w6 := Below.trans (by repeat (first | with_reducible exact bw | with_reducible refine Below.drew ?_)) (hb6.mono (by first | omega | simp))))
            all_goals
              go_wp2_with fail
              go_meet
              exact ⟨rfl, bw⟩
          case rest =>
            obtain ⟨rfl, hbz⟩ := hcut
            go_wp2_with fail
            go_roundw
            case rel => exact ⟨k + 1, by omega, by omega, by go_num, hB2.trans (hbz.mono (by have := hB2.size; omega))⟩
            case measure => simp [intOf]; omega
      · have hb8 : decide ((k : Int) < 8) = false := by simp; omega
        go_wp2_with (go_at_call 15; refine (wakes2 _).mono ?_; rintro e w4 ⟨rfl, hb4⟩)
        go_ret
        exact ⟨rfl, hbo.trans (hb4.mono (by omega))⟩
    · have hbl2 : decide ((k : Int) < (qs.length : Int)) = false := by simp; omega
      go_wp2_with (go_at_call 15; refine (wakes2 _).mono ?_; rintro e w4 ⟨rfl, hb4⟩)
      go_ret
      exact ⟨rfl, hbo.trans (hb4.mono (by omega))⟩
end Go.Proofs.Ytgolpadmcalimaa
