import Derived.Test.YtnhmhedabdmnbaaAsk6
import Derived.Deep.RegionWith
import Derived.Deep.RegionHeld3
import Derived.Deep.DeepCutAuto
set_option linter.unusedSimpArgs false
set_option linter.unusedVariables false
namespace Go.Proofs.Ytnhmhedabdmnbaa
open Go.RowKit

/-! tarnlaw6.BlobTells, walked. -/
/-- One question's copy, in a block of its own. -/
def Q6at (P : Nat) (aH aB : Option Addr) (cH cB : Nat) (q : Q6) (W : World) : Prop :=
  W.cell? ⟨P, 0, none⟩ = some (.slice aH q.hl cH) ∧ W.cell? ⟨P, 1, none⟩ = some (.slice aB q.n cB) ∧ W.cell? ⟨P, 2, none⟩ = some (.int .i64 q.k) ∧ Su W (.slice aH q.hl cH) q.g q.hl ∧ Ss W (.slice aB q.n cB) q.f q.n
theorem Q6at.below {P : Nat} {aH aB : Option Addr} {cH cB : Nat} {q : Q6} {W W' : World} (h : Q6at P aH aB cH cB q W) (hb : Below W.heap.size W W') : Q6at P aH aB cH cB q W' := by
  obtain ⟨c0, c1, c2, s0, s1⟩ := h
  exact ⟨(hb.cell (cell_lt' c0)).trans c0, (hb.cell (cell_lt' c1)).trans c1, (hb.cell (cell_lt' c2)).trans c2, s0.below hb, s1.below hb⟩
/-- Two cells of one block. -/
def JQ (X : Nat) (u v : Value) (w0 w' : World) : Prop := w'.cell? ⟨X, 0, none⟩ = some u ∧ w'.cell? ⟨X, 1, none⟩ = some v ∧ Below w0.heap.size w0 w'
theorem JQ.below {X : Nat} {u v : Value} {w0 w w' : World} (h : JQ X u v w0 w) (hb : Below w.heap.size w w') : JQ X u v w0 w' := by
  obtain ⟨h0, h1, hB⟩ := h
  exact ⟨(hb.cell (cell_lt' h0)).trans h0, (hb.cell (cell_lt' h1)).trans h1, hB.trans (hb.mono hB.size)⟩
theorem JQ.drew {X : Nat} {u v : Value} {w0 w : World} (h : JQ X u v w0 w) : JQ X u v w0 w.drew := h.below ((Below.refl _ w).drew)
theorem JQ.bel {X : Nat} {u v : Value} {w0 w : World} (h : JQ X u v w0 w) : Below w0.heap.size w0 w := h.2.2
theorem Ss.at {w : World} {ad : Option Addr} {cap : Nat} {f : Nat → ByteArray} {len i : Nat} (h : Ss w (.slice ad len cap) f len) (hi : i < len) : (f i).size ≤ maxLen ∧ ∃ b off, ad = some ⟨b, off, none⟩ ∧ w.cell? ⟨b, off + i, none⟩ = some (.string (f i)) := by
  obtain ⟨h1, h2, a, c, hv, h3⟩ := h
  simp at hv
  obtain ⟨rfl, rfl⟩ := hv
  exact ⟨h2 i hi, h3 i hi⟩
set_option maxRecDepth 100000 in
set_option maxHeartbeats 4000000 in
theorem blobTells_walk (v : Value) (qs : List Q6) (w : World) (hs : Sq6 w v qs) :
    Calls Try.prog 3 #[v] w fun e w' => e = .returned (.bool true) ∧ Below w.heap.size w w' := by
  have HQ : Hid (Sq6 w v qs) := hs
  obtain ⟨hlen, ad, cap, rfl, hat⟩ := hs
  have HA : Hid _ := hat
  clear hat
  go_enter Try.func3, Try.ntmps3
  go_wp2_with fail
  go_loopw [3] (fun i wr => ∃ k : Nat, k ≤ qs.length ∧ k ≤ 12 ∧ i = .int .i64 k ∧ Below w.heap.size w wr) (fun i _ => qs.length - (intOf i).toNat)
  case atStart => exact ⟨0, by omega, by omega, rfl, Below.refl _ _⟩
  case round =>
    obtain ⟨i, hi, hi20, rfl, hbo⟩ := hrel
    have hszr := hbo.size
    by_cases hlt : i < qs.length
    · have hlt' : (i : Int) < (qs.length : Int) := by omega
      by_cases hlt2 : i < 12
      · have hlt2' : (i : Int) < 12 := by omega
        obtain ⟨b, off, rfl, aH, cH, aB, cB, c0, c1, c2, s0, s1, hk1, hk2⟩ := HA.out i hlt
        replace c0 := (hbo.cell (cell_lt' c0)).trans c0
        replace c1 := (hbo.cell (cell_lt' c1)).trans c1
        replace c2 := (hbo.cell (cell_lt' c2)).trans c2
        replace s0 := s0.below hbo
        replace s1 := s1.below hbo
        generalize qs[i] = q at *
        have HB : Hid (Below w.heap.size w wr) := hbo
        have HS0 : Hid (Su wr (.slice aH q.hl cH) q.g q.hl) := s0
        have HS1 : Hid (Ss wr (.slice aB q.n cB) q.f q.n) := s1
        have hl1 := s0.1
        have hl2 := s1.1
        unfold maxLen at hl1 hl2
        clear s0 s1 hbo
        go_upto_region 5 with fail
        obtain ⟨W, hW⟩ : ∃ W, W = wr.alloc (.cells #[.slice aH q.hl cH, .slice aB q.n cB, .int .i64 q.k] 26) := ⟨_, rfl⟩
        obtain ⟨X, hX⟩ : ∃ X, X = wr.heap.size := ⟨_, rfl⟩
        rw [← hW, ← hX]
        have hbW : Below wr.heap.size wr W := by rw [hW]; exact (Below.refl _ _).alloc (Nat.le_refl _) _
        have hQ : Q6at X aH aB cH cB q W := by
          have bX : Bk W X #[.slice aH q.hl cH, .slice aB q.n cB, .int .i64 q.k] 26 := by rw [hW, hX]; exact Bk.new _ _ _
          exact ⟨bX.cell 0, bX.cell 1, bX.cell 2, HS0.out.below hbW, HS1.out.below hbW⟩
        replace HB : Hid (Below w.heap.size w W) := HB.out.trans (hbW.mono hszr)
        clear hW hX hbW HS0 HS1 c0 c1 c2 HQ
        have HQ : Hid (Q6at X aH aB cH cB q W) := hQ
        obtain ⟨c0, c1, c2, -, -⟩ := hQ
        by_cases hbig : 1000 < wrap64 ((q.hl : Int) + (q.n : Int))
        · go_wp2_with fail
          go_ret
          exact ⟨rfl, HB.out⟩
        · go_wp2_with fail
          go_loopw [5] (fun k wq => ∃ m : Nat, m ≤ q.n ∧ m ≤ 10 ∧ k = .int .i64 m ∧ Q6at X aH aB cH cB q wq ∧ Below w.heap.size w wq) (fun k _ => q.n - (intOf k).toNat)
          case atStart => exact ⟨0, by omega, by omega, rfl, HQ.out, HB.out⟩
          case round =>
            clear c0 c1 c2 HB HQ
            obtain ⟨m, hm, hm10, rfl, hQ, hB⟩ := hrel
            have HB : Hid (Below w.heap.size w wr) := hB
            have HQ : Hid (Q6at X aH aB cH cB q wr) := hQ
            clear hB
            obtain ⟨c0, c1, c2, s0, s1⟩ := hQ
            by_cases hmn : m < q.n ∧ m < 10
            · obtain ⟨hmn, hmt⟩ := hmn
              have hmn' : (m : Int) < (q.n : Int) := by omega
              have hmt' : (m : Int) < 10 := by omega
              obtain ⟨hfz, b2, off2, rfl, hc⟩ := s1.at hmn
              clear s0 s1
              have HH : Hid (∀ w, Calls Try.prog 6 #[.string (q.f m)] w fun e w' => e = .returned (.tuple #[.int .u64 (hV (q.f m) : Int), .int .i64 (hE (q.f m))]) ∧ Below w.heap.size w w') := fun w => hash _ w
              by_cases hz : 64 < (q.f m).size
              · have hz' : 64 < ((q.f m).size : Int) := by omega
                rw [show hV (q.f m) = 0 from if_pos hz, show hE (q.f m) = 2 from if_pos hz] at HH
                clear hz
                generalize q.f m = s at *
                go_wp2_with fail
                refine (HH.out _).mono ?_
                rintro e w1 ⟨rfl, hb1⟩
                replace c1 := (hb1.cell (cell_lt' c1)).trans c1
                replace hc := (hb1.cell (cell_lt' hc)).trans hc
                replace HQ : Hid (Q6at X aH (some ⟨b2, off2, none⟩) cH cB q w1) := HQ.out.below hb1
                replace HB : Hid (Below w.heap.size w w1) := HB.out.trans (hb1.mono HB.out.size)
                clear hb1 c0 c2
                go_wp2_with (go_at_call 7; refine (num6 _ _).mono ?_; rintro e w2 ⟨rfl, rfl⟩)
                go_roundw
                case rel => exact ⟨m + 1, by omega, by omega, by go_num, HQ.out, HB.out⟩
                case measure => simp [intOf]; omega
              · have hz' : ¬ 64 < ((q.f m).size : Int) := by omega
                have HR : Hid (∀ w, Calls Try.prog 8 #[.string (q.f m)] w fun e w' => e = .returned (.int .u64 (mk (bl (q.f m)) : Int)) ∧ w' = w) := fun w => rhash _ (by omega) w
                rw [show hV (q.f m) = mk (bl (q.f m)) from if_neg hz, show hE (q.f m) = 0 from if_neg hz] at HH
                clear hz
                generalize mk (bl (q.f m)) = y at *
                generalize q.f m = s at *
                go_wp2_with fail
                refine (HH.out _).mono ?_
                rintro e w1 ⟨rfl, hb1⟩
                replace c1 := (hb1.cell (cell_lt' c1)).trans c1
                replace hc := (hb1.cell (cell_lt' hc)).trans hc
                replace HQ : Hid (Q6at X aH (some ⟨b2, off2, none⟩) cH cB q w1) := HQ.out.below hb1
                replace HB : Hid (Below w.heap.size w w1) := HB.out.trans (hb1.mono HB.out.size)
                clear hb1 c0 c2
                go_wp2_with (first | (go_at_call 7; refine (num6 _ _).mono ?_; rintro e w2 ⟨rfl, rfl⟩) | (go_at_call 8; refine (HR.out _).mono ?_; rintro e w2 ⟨rfl, rfl⟩))
                go_roundw
                case rel => exact ⟨m + 1, by omega, by omega, by go_num, HQ.out, HB.out⟩
                case measure => simp [intOf]; omega
            · have hend : ¬ (m : Int) < (q.n : Int) ∨ ((m : Int) < (q.n : Int) ∧ ¬ (m : Int) < 10) := by
                by_cases h : (m : Int) < (q.n : Int)
                · exact .inr ⟨h, by omega⟩
                · exact .inl h
              clear hmn
              have HF1 : Hid (∀ W', Below wr.heap.size wr W' → Calls Try.prog 9 #[.slice aH q.hl cH, .slice aB q.n cB] W' fun e w' => e = .returned (.int .i64 (fitE q.hl q.n q.g q.f)) ∧ Below W'.heap.size W' w') := fun W' h => fits_any _ _ _ _ _ _ _ _ _ (s0.below h) (s1.below h)
              have HF2 : Hid (∀ W', Below wr.heap.size wr W' → Calls Try.prog 10 #[.slice aH q.hl cH, .slice aB q.n cB] W' fun e w' => e = .returned (.int .i64 (fitE q.hl q.n q.g q.f)) ∧ Below W'.heap.size W' w') := fun W' h => rfits_any _ _ _ _ _ _ _ _ _ (s0.below h) (s1.below h)
              generalize fitE q.hl q.n q.g q.f = fe at *
              clear s0 s1
              have hT : JQ X (.slice aH q.hl cH) (.slice aB q.n cB) wr wr := ⟨c0, c1, Below.refl _ _⟩
              rcases hend with hend | ⟨hend, hend2⟩
              · go_upto_region 16 with fail
                go_cut [90] (fun u wx => u = .bool false ∧ Below wr.heap.size wr wx)
                case first =>
                  go_region_held3 (fun w' => w'.cell? ⟨X, 0, none⟩ = some (.slice aH q.hl cH) ∧ w'.cell? ⟨X, 1, none⟩ = some (.slice aB q.n cB) ∧ Below wr.heap.size wr w') ((show JQ X (.slice aH q.hl cH) (.slice aB q.n cB) wr _; repeat (first | with_reducible exact hT | with_reducible refine JQ.drew ?_))) ((first | (go_at_call 9; refine (HF1.out _ (by repeat (first | with_reducible exact hT.bel | with_reducible refine Below.drew ?_))).mono ?_; rintro e w2 ⟨rfl, hb2⟩; have hT := JQ.below (X := X) (u := .slice aH q.hl cH) (v := .slice aB q.n cB) (w0 := wr) (by repeat (first | with_reducible exact hT | with_reducible refine JQ.drew ?_)) hb2) | (go_at_call 10; refine (HF2.out _ (by repeat (first | with_reducible exact hT.bel | with_reducible refine Below.drew ?_))).mono ?_; rintro e w2 ⟨rfl, hb2⟩; have hT := JQ.below (X := X) (u := .slice aH q.hl cH) (v := .slice aB q.n cB) (w0 := wr) (by repeat (first | with_reducible exact hT | with_reducible refine JQ.drew ?_)) hb2) | (go_at_call 7; refine (num6 _ _).mono ?_; rintro e w2 ⟨rfl, rfl⟩)))
                  all_goals
                    go_wp2_with fail
                    go_meet
                    exact ⟨rfl, hT.bel⟩
                case rest =>
                  obtain ⟨rfl, hbz⟩ := hcut
                  replace c2 := (hbz.cell (cell_lt' c2)).trans c2
                  replace HB : Hid (Below w.heap.size w wc) := HB.out.trans (hbz.mono HB.out.size)
                  clear hbz hT HF1 HF2 HQ c0 c1
                  have HG : Hid (∀ w, Calls Try.prog 11 #[.int .i64 q.k] w fun e w' => e = .returned (.tuple #[.int .i64 (gasV q.k), .int .i64 (gasE q.k)]) ∧ w' = w) := fun w => gas _ w
                  generalize q.k = kk at *
                  by_cases k1 : 1 ≤ kk
                  · by_cases k4 : kk ≤ 4
                    · have hc : cnts kk = true := by simp [cnts, k1, k4]
                      have hw : wrap64 (kk * 131072) = kk * 131072 := by unfold wrap64; omega
                      have k1n : ¬ kk < 1 := by omega
                      have k4n : ¬ 4 < kk := by omega
                      rw [show gasV kk = kk * 131072 from if_pos hc, show gasE kk = 0 from if_pos hc] at HG
                      go_wp2_with fail
                      refine (HG.out _).mono ?_
                      rintro e w1 ⟨rfl, rfl⟩
                      go_wp2_with (go_at_call 7; refine (num6 _ _).mono ?_; rintro e w2 ⟨rfl, rfl⟩)
                      go_roundw
                      case rel => exact ⟨i + 1, by omega, by omega, by go_num, HB.out⟩
                      case measure => simp [intOf]; omega
                    · have hc : ¬ cnts kk = true := by simp [cnts, k4]
                      have k1n : ¬ kk < 1 := by omega
                      have k4n : 4 < kk := by omega
                      rw [show gasV kk = 0 from if_neg hc, show gasE kk = 1 from if_neg hc] at HG
                      go_wp2_with fail
                      refine (HG.out _).mono ?_
                      rintro e w1 ⟨rfl, rfl⟩
                      go_wp2_with (go_at_call 7; refine (num6 _ _).mono ?_; rintro e w2 ⟨rfl, rfl⟩)
                      go_roundw
                      case rel => exact ⟨i + 1, by omega, by omega, by go_num, HB.out⟩
                      case measure => simp [intOf]; omega
                  · have hc : ¬ cnts kk = true := by simp [cnts, k1]
                    have k1n : kk < 1 := by omega
                    rw [show gasV kk = 0 from if_neg hc, show gasE kk = 1 from if_neg hc] at HG
                    go_wp2_with fail
                    refine (HG.out _).mono ?_
                    rintro e w1 ⟨rfl, rfl⟩
                    go_wp2_with (go_at_call 7; refine (num6 _ _).mono ?_; rintro e w2 ⟨rfl, rfl⟩)
                    go_roundw
                    case rel => exact ⟨i + 1, by omega, by omega, by go_num, HB.out⟩
                    case measure => simp [intOf]; omega
              · go_upto_region 16 with fail
                go_cut [90] (fun u wx => u = .bool false ∧ Below wr.heap.size wr wx)
                case first =>
                  go_region_held3 (fun w' => w'.cell? ⟨X, 0, none⟩ = some (.slice aH q.hl cH) ∧ w'.cell? ⟨X, 1, none⟩ = some (.slice aB q.n cB) ∧ Below wr.heap.size wr w') ((show JQ X (.slice aH q.hl cH) (.slice aB q.n cB) wr _; repeat (first | with_reducible exact hT | with_reducible refine JQ.drew ?_))) ((first | (go_at_call 9; refine (HF1.out _ (by repeat (first | with_reducible exact hT.bel | with_reducible refine Below.drew ?_))).mono ?_; rintro e w2 ⟨rfl, hb2⟩; have hT := JQ.below (X := X) (u := .slice aH q.hl cH) (v := .slice aB q.n cB) (w0 := wr) (by repeat (first | with_reducible exact hT | with_reducible refine JQ.drew ?_)) hb2) | (go_at_call 10; refine (HF2.out _ (by repeat (first | with_reducible exact hT.bel | with_reducible refine Below.drew ?_))).mono ?_; rintro e w2 ⟨rfl, hb2⟩; have hT := JQ.below (X := X) (u := .slice aH q.hl cH) (v := .slice aB q.n cB) (w0 := wr) (by repeat (first | with_reducible exact hT | with_reducible refine JQ.drew ?_)) hb2) | (go_at_call 7; refine (num6 _ _).mono ?_; rintro e w2 ⟨rfl, rfl⟩)))
                  all_goals
                    go_wp2_with fail
                    go_meet
                    exact ⟨rfl, hT.bel⟩
                case rest =>
                  obtain ⟨rfl, hbz⟩ := hcut
                  replace c2 := (hbz.cell (cell_lt' c2)).trans c2
                  replace HB : Hid (Below w.heap.size w wc) := HB.out.trans (hbz.mono HB.out.size)
                  clear hbz hT HF1 HF2 HQ c0 c1
                  have HG : Hid (∀ w, Calls Try.prog 11 #[.int .i64 q.k] w fun e w' => e = .returned (.tuple #[.int .i64 (gasV q.k), .int .i64 (gasE q.k)]) ∧ w' = w) := fun w => gas _ w
                  generalize q.k = kk at *
                  by_cases k1 : 1 ≤ kk
                  · by_cases k4 : kk ≤ 4
                    · have hc : cnts kk = true := by simp [cnts, k1, k4]
                      have hw : wrap64 (kk * 131072) = kk * 131072 := by unfold wrap64; omega
                      have k1n : ¬ kk < 1 := by omega
                      have k4n : ¬ 4 < kk := by omega
                      rw [show gasV kk = kk * 131072 from if_pos hc, show gasE kk = 0 from if_pos hc] at HG
                      go_wp2_with fail
                      refine (HG.out _).mono ?_
                      rintro e w1 ⟨rfl, rfl⟩
                      go_wp2_with (go_at_call 7; refine (num6 _ _).mono ?_; rintro e w2 ⟨rfl, rfl⟩)
                      go_roundw
                      case rel => exact ⟨i + 1, by omega, by omega, by go_num, HB.out⟩
                      case measure => simp [intOf]; omega
                    · have hc : ¬ cnts kk = true := by simp [cnts, k4]
                      have k1n : ¬ kk < 1 := by omega
                      have k4n : 4 < kk := by omega
                      rw [show gasV kk = 0 from if_neg hc, show gasE kk = 1 from if_neg hc] at HG
                      go_wp2_with fail
                      refine (HG.out _).mono ?_
                      rintro e w1 ⟨rfl, rfl⟩
                      go_wp2_with (go_at_call 7; refine (num6 _ _).mono ?_; rintro e w2 ⟨rfl, rfl⟩)
                      go_roundw
                      case rel => exact ⟨i + 1, by omega, by omega, by go_num, HB.out⟩
                      case measure => simp [intOf]; omega
                  · have hc : ¬ cnts kk = true := by simp [cnts, k1]
                    have k1n : kk < 1 := by omega
                    rw [show gasV kk = 0 from if_neg hc, show gasE kk = 1 from if_neg hc] at HG
                    go_wp2_with fail
                    refine (HG.out _).mono ?_
                    rintro e w1 ⟨rfl, rfl⟩
                    go_wp2_with (go_at_call 7; refine (num6 _ _).mono ?_; rintro e w2 ⟨rfl, rfl⟩)
                    go_roundw
                    case rel => exact ⟨i + 1, by omega, by omega, by go_num, HB.out⟩
                    case measure => simp [intOf]; omega
      · have hlt2' : ¬ (i : Int) < 12 := by omega
        go_wp2_with (go_at_call 12; refine (wakes6 _).mono ?_; rintro e w1 ⟨rfl, rfl⟩)
        go_ret
        exact ⟨rfl, hbo⟩
    · have hlt' : ¬ (i : Int) < (qs.length : Int) := by omega
      go_wp2_with (go_at_call 12; refine (wakes6 _).mono ?_; rintro e w1 ⟨rfl, rfl⟩)
      go_ret
      exact ⟨rfl, hbo⟩
end Go.Proofs.Ytnhmhedabdmnbaa
