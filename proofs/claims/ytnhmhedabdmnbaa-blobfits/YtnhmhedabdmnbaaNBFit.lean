import Derived.Test.YtnhmhedabdmnbaaAsk6
import Derived.Test.YtnhmhedabdmnbaaCpM
import Derived.Test.YtnhmhedabdmnbaaCpS
import Derived.Test.YtnhmhedabdmnbaaSb
import Derived.Deep.RegionHeld3
import Derived.Deep.DeepCutAuto
import Derived.Deep.CutBlock
set_option linter.unusedSimpArgs false
set_option linter.unusedVariables false
namespace Go.Proofs.Ytnhmhedabdmnbaa
open Go.RowKit

/-! tarnlaw6.BlobFits, walked. -/
abbrev hm (b : ByteArray) : Nat := mk (bl b)
/-- Blobs that may be, and their hashes, in rows of the call's own. -/
structure BI (w W : World) (u v : Value) (bs : List ByteArray) : Prop where
  ok : ∀ b ∈ bs, b.size ≤ 64
  four : bs.length ≤ 4
  rH : Or 27 cU W w.heap.size u (bs.map hm)
  rB : Or 9 cS W w.heap.size v bs
  hB : Below w.heap.size w W
theorem BI.below {w W W' : World} {u v : Value} {bs : List ByteArray} (h : BI w W u v bs) (hb : Below W.heap.size W W') : BI w W' u v bs :=
  ⟨h.ok, h.four, h.rH.below' hb, h.rB.below' hb, h.hB.trans (hb.mono h.hB.size)⟩
theorem BI.setc {w W : World} {u v : Value} {bs : List ByteArray} (h : BI w W u v bs) (p : Addr) (x : Value) (h1 : u.ownBlock ≠ some p.block) (h2 : v.ownBlock ≠ some p.block) (h3 : w.heap.size ≤ p.block) : BI w (W.setCell p x) u v bs :=
  ⟨h.ok, h.four, h.rH.other p x (.inr h1), h.rB.other p x (.inr h2), h.hB.setCell h3 x⟩
theorem bl_set (b : ByteArray) (c : UInt8) : bl ⟨(b.data.toList.set 0 c).toArray⟩ = ⟨((bl b).data.toList.set 4 c).toArray⟩ := by
  apply ByteArray.ext
  simp [bl, ByteArray.data_append]
theorem hm_set (b : ByteArray) (c : UInt8) (h : 0 < b.size) (hc : c ≠ b[0]) : hm ⟨(b.data.toList.set 0 c).toArray⟩ ≠ hm b := by
  unfold hm
  rw [bl_set]
  have hz := bl_size b
  refine mk_set (bl b) 4 c (by omega) ?_
  intro e
  apply hc
  rw [e]
  exact ByteArray.getElem_append_right (a := ⟨#[98, 108, 111, 98]⟩) (b := b) (i := 4) (by show 4 ≤ 4; omega)
theorem own_shape {w : World} {base : Nat} {e : TypeId} {z n : Nat} {v : Value} {xs : List Value} (h : w.ownsRow base e z v n xs) : ∃ ad cap, v = .slice ad n cap := by
  rcases h.2 with ⟨rfl, rfl⟩ | ⟨g, cap, cur, rfl, _⟩
  · exact ⟨_, _, rfl⟩
  · exact ⟨_, _, rfl⟩
theorem cnts_of {n : Nat} (h1 : 1 ≤ n) (h4 : n ≤ 4) : cnts n = true := by simp [cnts]; omega
theorem fit0 {n : Nat} {g : Nat → Nat} {f : Nat → ByteArray} (h1 : 1 ≤ n) (h4 : n ≤ 4) (hz : ∀ i, i < n → (f i).size ≤ 64) (hh : ∀ i, i < n → hm (f i) = g i) : fitE n n g f = 0 := by
  unfold fitE
  rw [if_pos ⟨cnts_of h1 h4, rfl⟩, any_prs_false (p := big) fun k hk => by have := hz k hk; simp [big]; omega, any_prs_false (p := unfit) fun k hk => by simp [unfit]; exact hh k hk]
  rfl
theorem fit1 {n i : Nat} {g : Nat → Nat} {f : Nat → ByteArray} (h4 : n ≤ 4) (hz : ∀ i, i < n → (f i).size ≤ 64) (hi : i < n) (hh : hm (f i) ≠ g i) : fitE n n g f = 1 := by
  unfold fitE
  rw [if_pos ⟨cnts_of (by omega) h4, rfl⟩, any_prs_false (p := big) fun k hk => by have := hz k hk; simp [big]; omega, any_prs_true (p := unfit) hi (by simp [unfit]; exact hh)]
  rfl
theorem BI.marks {w W : World} {u v : Value} {bs : List ByteArray} (h : BI w W u v bs) : Su W u (fun i => (bs.map hm).getD i 0) bs.length := by
  have := h.rH.su (fun x hx => by obtain ⟨b, _, rfl⟩ := List.mem_map.1 hx; exact mk_lt _)
  rwa [List.length_map] at this
theorem BI.blobs {w W : World} {u v : Value} {bs : List ByteArray} (h : BI w W u v bs) : Ss W v (fun i => bs.getD i ByteArray.empty) bs.length :=
  h.rB.ss (fun x hx => by have := h.ok x hx; unfold maxLen; omega)
theorem fits_ok {w W : World} {aU aV : Option Addr} {k l c d : Nat} {bs : List ByteArray} (h : BI w W (.slice aU k c) (.slice aV l d) bs) (hk : k = bs.length) (hl : l = bs.length) (h1 : 1 ≤ bs.length) :
    Calls Try.prog 9 #[.slice aU k c, .slice aV l d] W fun e w' => e = .returned (.int .i64 0) ∧ Below W.heap.size W w' := by
  subst hk; subst hl
  have := fits_any bs.length bs.length aU aV c d _ _ W h.marks h.blobs
  rw [fit0 h1 h.four (fun i hi => by simp [hi]; exact h.ok _ (List.getElem_mem hi)) (fun i hi => by simp [hi])] at this
  exact this
theorem fits_less (k l c d : Nat) (aU aV : Option Addr) (W : World) (hk : k ≠ l) (h1 : k ≤ 100) (h2 : l ≤ 100) :
    Calls Try.prog 9 #[.slice aU k c, .slice aV l d] W fun e w' => e = .returned (.int .i64 1) ∧ Below W.heap.size W w' := by
  have h : ¬ (cnts l = true ∧ k = l) := fun h => hk h.2
  have := fits_no k l aU aV c d (fun _ => 0) (fun _ => ByteArray.empty) W h (by omega) (by omega)
  rw [show fitE k l (fun _ => 0) (fun _ => ByteArray.empty) = 1 from if_neg h] at this
  exact this
theorem range_getD {α : Type} (l : List α) (d : α) : (List.range l.length).map (fun i => l.getD i d) = l := by
  apply List.ext_getElem
  · simp
  · intro i h1 h2
    simp at h1
    simp [h1]
theorem marks_copied {w W : World} {aU : Option Addr} {v : Value} {k c : Nat} {bs : List ByteArray} (h : BI w W (.slice aU k c) v bs) (hk : k = bs.length) :
    Calls Try.prog 13 #[.slice aU k c] W fun r w' => (∃ u, r = .returned u ∧ Or 27 cU w' W.heap.size u (bs.map hm)) ∧ Below W.heap.size W w' := by
  subst hk
  have h4 := h.four
  have := copyMarks _ _ _ W h.marks (by omega)
  have e := range_getD (bs.map hm) 0
  rw [List.length_map] at e
  rw [e] at this
  exact this
theorem blobs_copied {w W : World} {aV : Option Addr} {u : Value} {k c : Nat} {bs : List ByteArray} (h : BI w W u (.slice aV k c) bs) (hk : k = bs.length) :
    Calls Try.prog 14 #[.slice aV k c] W fun r w' => (∃ u, r = .returned u ∧ Or 9 cS w' W.heap.size u bs) ∧ Below W.heap.size W w' := by
  subst hk
  have h4 := h.four
  have := copyStrings _ _ _ W h.blobs (by omega)
  rw [range_getD] at this
  exact this
/-- With other blobs, one of which has another hash. -/
theorem fits_bent {w W : World} {aU aV aX : Option Addr} {k l m c d x base i : Nat} {bs cs : List ByteArray} (h : BI w W (.slice aU k c) (.slice aV l d) bs) (hk : k = bs.length) (hx : Or 9 cS W base (.slice aX m x) cs) (hm' : m = cs.length) (hl : cs.length = bs.length) (hz : ∀ b ∈ cs, b.size ≤ 64)
    (hi : i < bs.length) (hne : hm (cs.getD i ByteArray.empty) ≠ hm (bs.getD i ByteArray.empty)) :
    Calls Try.prog 9 #[.slice aU k c, .slice aX m x] W fun e w' => e = .returned (.int .i64 1) ∧ Below W.heap.size W w' := by
  subst hk; subst hm'
  have hs := hx.ss (fun b hb => by have := hz b hb; unfold maxLen; omega)
  have := fits_any bs.length cs.length aU aX c x _ _ W h.marks hs
  rw [hl] at this ⊢
  rw [fit1 (i := i) h.four (fun j hj => by have hj' : j < cs.length := (by omega); simp [hj']; exact hz _ (List.getElem_mem hj')) hi (by intro e; apply hne; rw [e]; simp [hi])] at this
  exact this
set_option maxRecDepth 100000 in
set_option maxHeartbeats 4000000 in
theorem blobFits_walk (v : Value) (qs : List Q6) (w : World) (hs : Sq6 w v qs) :
    Calls Try.prog 4 #[v] w fun e w' => e = .returned (.bool true) ∧ Below w.heap.size w w' := by
  obtain ⟨hlen, ad, cap, rfl, hat⟩ := hs
  obtain ⟨i0, hi0, hz0, hz1, hz2⟩ := info_of infoU
  obtain ⟨j0, hj0, hy0, hy1, hy2⟩ := info_of infoS
  have HI : Hid (Try.prog.info? 27 = some i0 ∧ i0.zero = some (.int .u64 0) ∧ i0.size = 1 ∧ i0.bytes = 8) := ⟨hi0, hz0, hz1, hz2⟩
  have HJ : Hid (Try.prog.info? 9 = some j0 ∧ j0.zero = some (.string ⟨#[]⟩) ∧ j0.size = 1 ∧ j0.bytes = 16) := ⟨hj0, hy0, hy1, hy2⟩
  have HA : Hid _ := hat
  clear hat hi0 hz0 hz1 hz2 hj0 hy0 hy1 hy2
  go_enter Try.func4, Try.ntmps4
  go_wp2_with fail
  go_loopw [3] (fun i wr => ∃ k : Nat, k ≤ qs.length ∧ k ≤ 12 ∧ i = .int .i64 k ∧ Below w.heap.size w wr) (fun i _ => qs.length - (intOf i).toNat)
  case atStart => exact ⟨0, by omega, by omega, rfl, Below.refl _ _⟩
  case round =>
    obtain ⟨i, hi, hi20, rfl, hbo⟩ := hrel
    by_cases hlt : i < qs.length
    · have hlt' : (i : Int) < (qs.length : Int) := by omega
      by_cases hlt2 : i < 12
      · have hlt2' : (i : Int) < 12 := by omega
        obtain ⟨b, off, rfl, aH, cH, aB, cB, c0, c1, c2, s0, s1, hk1, hk2⟩ := HA.out i hlt
        have HC : Hid (w.cell? ⟨b, off + i * 3 + 1, none⟩ = some (.slice aB qs[i].n cB) ∧ Ss w (.slice aB qs[i].n cB) qs[i].f qs[i].n) := ⟨c1, s1⟩
        have hn := s1.1
        unfold maxLen at hn
        clear c0 c1 c2 s0 s1
        generalize qs[i].f = f at *
        generalize qs[i].n = n at *
        have HB : Hid (Below w.heap.size w wr) := hbo
        clear hbo
        go_upto_block 2 with fail
        go_cut [4, 5] (fun u v wx => ∃ bs, BI w wx u v bs)
        case first =>
          go_wp2_with fail
          go_loopw [4, 5, 6] (fun u v k wq => ∃ (m : Nat) (bs : List ByteArray), m ≤ n ∧ k = .int .i64 m ∧ BI w wq u v bs) (fun _ _ k _ => n - (intOf k).toNat)
          case atStart => exact ⟨0, [], by omega, rfl, ⟨(fun b hb => by cases hb), by simp, Or.nil _ _ _ _, Or.nil _ _ _ _, HB.out⟩⟩
          case round =>
            clear HB
            obtain ⟨m, bs, hmn, rfl, hI⟩ := hrel
            have HBI : Hid (BI w wr u4 u5 bs) := hI
            have c1 := (hI.hB.cell (cell_lt' HC.out.1)).trans HC.out.1
            obtain ⟨aU, cU', eU, -⟩ := hI.rH.shape
            rw [List.length_map] at eU
            subst eU
            obtain ⟨aV, cV, rfl, -⟩ := hI.rB.shape
            have h4 := hI.four
            have hszr := hI.hB.size
            by_cases hgo : m < n ∧ bs.length < 4
            · obtain ⟨hlm, hl4⟩ := hgo
              have hlm' : (m : Int) < (n : Int) := by omega
              have hl4' : (bs.length : Int) < 4 := by omega
              obtain ⟨hfz, b2, off2, rfl, hc⟩ := HC.out.2.at hlm
              have hb2w := cell_lt' hc
              have hbw := cell_lt' HC.out.1
              replace hc := (hI.hB.cell (cell_lt' hc)).trans hc
              have HH : Hid (∀ w, Calls Try.prog 6 #[.string (f m)] w fun e w' => e = .returned (.tuple #[.int .u64 (hV (f m) : Int), .int .i64 (hE (f m))]) ∧ Below w.heap.size w w') := fun w => hash _ w
              clear hI
              by_cases hz : 64 < (f m).size
              · rw [show hV (f m) = 0 from if_pos hz, show hE (f m) = 2 from if_pos hz] at HH
                clear hz
                generalize f m = s at *
                go_wp2_with fail
                refine (HH.out _).mono ?_
                rintro e w1 ⟨rfl, hb1⟩
                go_wp2_with (go_at_call 7; refine (num6 _ _).mono ?_; rintro e w2 ⟨rfl, rfl⟩)
                go_roundw
                case rel => exact ⟨m + 1, bs, by omega, by go_num, HBI.out.below hb1⟩
                case measure => simp [intOf]; omega
              · rw [show hV (f m) = hm (f m) from if_neg hz, show hE (f m) = 0 from if_neg hz] at HH
                have HZ : Hid ((f m).size ≤ 64) := by show _ ≤ _; omega
                have hy : hm (f m) < 18446744073709551616 := mk_lt (bl (f m))
                obtain ⟨y, ey⟩ : ∃ y, y = hm (f m) := ⟨_, rfl⟩
                have HY : Hid (y = hm (f m)) := ey
                rw [← ey] at HH hy
                clear hz ey
                generalize f m = s at *
                go_wp2_with fail
                refine (HH.out _).mono ?_
                rintro e w1 ⟨rfl, hb1⟩
                have HB1 := HBI.out.below hb1
                replace c1 := (hb1.cell (cell_lt' c1)).trans c1
                replace hc := (hb1.cell (cell_lt' hc)).trans hc
                have hb0 := HB1.hB.size
                have hml : (bs.map hm).length = bs.length := List.length_map ..
                have hownH : w1.ownsRow w.heap.size 27 1 (.slice aU bs.length cU') bs.length ((bs.map hm).map cU) := by have := HB1.rH; unfold Or at this; rw [hml] at this; exact this
                have HB1 : Hid (BI w w1 (.slice aU bs.length cU') (.slice aV bs.length cV) bs) := HB1
                clear hb1 HH HBI
                go_upto_region 12 with (first
                  | (go_at_call 7; refine (num6 _ _).mono ?_; rintro e w2 ⟨rfl, rfl⟩)
                  | (at_builtin; refine wpList_append_own _ rfl _ _ 23 rfl w.heap.size 27 i0 (.int .u64 0) 1 8 Try.underlying23 HI.out.1 HI.out.2.1 HI.out.2.2.1 HI.out.2.2.2 rfl (by decide) _ bs.length _ rfl (hownH.alloc _) ⟨w2.heap.size, 0, none⟩ 1 1 [cU y] rfl rfl (cell_one_new _ _ _) (by simp [Value.oneCell']) (by unfold maxLen; omega) (by omega) (by simp; omega) ?_; intro v1 w3 hown1 hgrow1 hnil1))
                have hR1 : Or 27 cU w3 w.heap.size v1 ((bs ++ [s]).map hm) := by
                  unfold Or
                  rw [List.map_append, List.length_append, hml, List.map_append]
                  have : [s].map hm = [y] := by rw [HY.out]; rfl
                  rw [this]
                  exact hown1
                have hR2 : Or 9 cS w3 w.heap.size (.slice aV bs.length cV) bs := (HB1.out.rB.alloc _).kept hgrow1 (HB1.out.rB.apart HB1.out.rH (by decide))
                have hb23 : Below w.heap.size w2 w3 := ((Below.refl w.heap.size w2).alloc hb0 _).grown hgrow1 (by simp; omega) (fun j hj => (HB1.out.rH.ge hj).1)
                have hB3 := HB1.out.hB.trans hb23
                replace c1 := (hb23.cell hbw).trans c1
                replace hc := (hb23.cell hb2w).trans hc
                have hs3 := hB3.size
                have HR1 : Hid (Or 27 cU w3 w.heap.size v1 ((bs ++ [s]).map hm)) := hR1
                have HR2 : Hid (Or 9 cS w3 w.heap.size (.slice aV bs.length cV) bs) := hR2
                have hownB : w3.ownsRow w.heap.size 9 1 (.slice aV bs.length cV) bs.length (bs.map cS) := hR2
                have HB3 : Hid (Below w.heap.size w w3) := hB3
                clear hR1 hR2 hown1 hgrow1 hnil1 hownH hb23 hB3 hml
                go_wp2_with (at_builtin; refine wpList_append_own _ rfl _ _ 24 rfl w.heap.size 9 j0 (.string ⟨#[]⟩) 1 16 Try.underlying24 HJ.out.1 HJ.out.2.1 HJ.out.2.2.1 HJ.out.2.2.2 rfl (by decide) _ bs.length _ rfl (hownB.alloc _) ⟨w3.heap.size, 0, none⟩ 1 1 [cS s] rfl rfl (cell_one_new _ _ _) (by simp [Value.oneCell']) (by unfold maxLen; omega) (by omega) (by simp; omega) ?_; intro v2 w4 hown2 hgrow2 hnil2)
                go_roundw
                case rel =>
                  refine ⟨m + 1, bs ++ [s], by omega, by go_num, ⟨?_, by simp; omega, ?_, ?_, ?_⟩⟩
                  · intro x hx
                    rcases List.mem_append.1 hx with h | h
                    · exact HB1.out.ok x h
                    · simp at h; rw [h]; exact HZ.out
                  · exact (HR1.out.alloc _).kept hgrow2 (HR1.out.apart HR2.out (by decide))
                  · unfold Or
                    rw [List.map_append, List.length_append]
                    exact hown2
                  · exact (HB3.out.alloc hs3 _).grown hgrow2 (by simp; omega) (fun j hj => (HR2.out.ge hj).1)
                case measure => simp [intOf]; omega
            · have hend : ¬ (m : Int) < (n : Int) ∨ ((m : Int) < (n : Int) ∧ ¬ (bs.length : Int) < 4) := by
                by_cases h : (m : Int) < (n : Int)
                · exact .inr ⟨h, by omega⟩
                · exact .inl h
              clear hgo hI
              rcases hend with hend | ⟨hend, hend2⟩
              · go_wp2_with fail
                go_meet
                exact ⟨bs, HBI.out⟩
              · go_wp2_with fail
                go_meet
                exact ⟨bs, HBI.out⟩
        case rest =>
          obtain ⟨bs, hI⟩ := hcut
          clear HB HC hn
          have h4 := hI.four
          obtain ⟨aV, cV, rfl, -⟩ := hI.rB.shape
          by_cases hL : bs.length = 0
          · have hL' : (bs.length : Int) = 0 := by omega
            have HB : Hid (Below w.heap.size w wc) := hI.hB
            clear hI
            go_wp2_with fail
            go_roundw
            case rel => exact ⟨i + 1, by omega, by omega, by go_num, HB.out⟩
            case measure => simp [intOf]; omega
          · have hL' : ((bs.length : Int) == 0) = false := by rw [beq_eq_false_iff_ne]; omega
            have hp : 0 < bs.length := by omega
            have hp' : (1 : Int) ≤ (bs.length : Int) := by omega
            obtain ⟨gH, cH, eH, hcH, hcm, hgH0, hgH⟩ := hI.rH.shape1 (by simpa using hp)
            rw [List.length_map] at eH hcH
            subst eH
            have hcH' : (bs.length : Int) ≤ (cH : Int) := by omega
            have HBI : Hid (BI w wc (.slice (some ⟨gH, 0, none⟩) bs.length cH) (.slice aV bs.length cV) bs) := hI
            clear hI
            have HL : Hid (∀ k c a W, k + 1 = bs.length ∨ k = bs.length + 1 → Calls Try.prog 9 #[.slice a k c, .slice aV bs.length cV] W fun e w' => e = .returned (.int .i64 1) ∧ Below W.heap.size W w') := fun k c a W hk => fits_less k bs.length c cV a aV W (by omega) (by omega) (by omega)
            go_upto_region 14 with fail
            go_cut [91] (fun u wx => u = .bool false ∧ BI w wx (.slice (some ⟨gH, 0, none⟩) bs.length cH) (.slice aV bs.length cV) bs)
            case first =>
              go_wp2_with fail
              refine (fits_ok HBI.out rfl rfl hp).mono ?_
              rintro e w1 ⟨rfl, hb1⟩
              replace HBI : Hid (BI w w1 (.slice (some ⟨gH, 0, none⟩) bs.length cH) (.slice aV bs.length cV) bs) := HBI.out.below hb1
              clear hb1
              go_wp2_with (go_at_call 7; refine (num6 _ _).mono ?_; rintro e w2 ⟨rfl, rfl⟩)
              all_goals
                try subst h
                refine (HL.out _ _ _ _ (by omega)).mono ?_
                rintro e w3 ⟨rfl, hb3⟩
                have HBJ : Hid (BI w w3 _ _ bs) := HBI.out.below hb3
                clear hb3 HBI
                go_wp2_with (go_at_call 7; refine (num6 _ _).mono ?_; rintro e w2 ⟨rfl, rfl⟩)
                refine (marks_copied HBJ.out rfl).mono ?_
                rintro e w4 ⟨⟨u, rfl, hO⟩, hb4⟩
                have HBK : Hid (BI w w4 _ _ bs) := HBJ.out.below hb4
                have hownK : w4.ownsRow w2.heap.size 27 1 u bs.length ((bs.map hm).map cU) := by have := hO; unfold Or at this; rw [List.length_map] at this; exact this
                have hb4s := hb4.size
                have hge : ∀ k, u.ownBlock = some k → w2.heap.size ≤ k := fun k hk => (hO.ge hk).1
                have HO : Hid (∀ k, u.ownBlock = some k → w2.heap.size ≤ k) := hge
                have HBB : Hid (Below w.heap.size w w4) := HBK.out.hB
                clear hO hge
                go_wp2_with (first
                  | (go_at_call 7; refine (num6 _ _).mono ?_; rintro e w6 ⟨rfl, rfl⟩)
                  | (refine wpList_append_ownG (by rfl) _ _ 23 rfl w2.heap.size 27 i0 (.int .u64 0) 1 8 Try.underlying23 HI.out.1 HI.out.2.1 HI.out.2.2.1 HI.out.2.2.2 rfl (by decide) _ bs.length _ rfl (hownK.alloc _) ⟨w4.heap.size, 0, none⟩ 1 1 [cU 1] rfl rfl (cell_one_new _ _ _) (by simp [Value.oneCell']) (by unfold maxLen; omega) (by omega) (by simp; omega) ?_; intro v5 w5 hown5 hgrow5 hnil5; obtain ⟨a5, c5, rfl⟩ := own_shape hown5))
                have hb45 : Below w2.heap.size w4 w5 := ((Below.refl w2.heap.size w4).alloc hb4s _).grown hgrow5 (by simp; omega) HO.out
                have HB5 : Hid (BI w w5 _ _ bs) := HBJ.out.below (hb4.trans hb45)
                clear hb45 hgrow5 hown5 hnil5 hownK HBK HBB HBJ hb4
                refine (HL.out _ _ _ _ (.inr rfl)).mono ?_
                rintro e w7 ⟨rfl, hb7⟩
                have HB7 : Hid (BI w w7 _ _ bs) := HB5.out.below hb7
                clear hb7 HB5
                go_wp2_with (go_at_call 7; refine (num6 _ _).mono ?_; rintro e w8 ⟨rfl, rfl⟩)
                go_meet
                exact ⟨rfl, HB7.out⟩
            case rest =>
              obtain ⟨rfl, hI⟩ := hcut
              clear HL HBI
              obtain ⟨gV, cV', eV, -, -, hgV0, hgV⟩ := hI.rB.shape1 hp
              simp at eV
              obtain ⟨rfl, rfl⟩ := eV
              have hgH2 : gH < wc.heap.size := (hI.rH.ge rfl).2
              have HI1 : Hid (BI w wc (.slice (some ⟨gH, 0, none⟩) bs.length cH) (.slice (some ⟨gV, 0, none⟩) bs.length cV) bs) := hI
              clear hI
              go_wp2_with fail
              refine (blobs_copied HI1.out rfl).mono ?_
              rintro e w1 ⟨⟨u, rfl, hO⟩, hb1⟩
              obtain ⟨g9, c9, rfl, hc9, -, hg9, hg9'⟩ := hO.shape1 hp
              replace HI1 : Hid (BI w w1 (.slice (some ⟨gH, 0, none⟩) bs.length cH) (.slice (some ⟨gV, 0, none⟩) bs.length cV) bs) := HI1.out.below hb1
              have hq0 := hO.cell 0 hp
              have hqf := hO.frozen 0
              have HO : Hid (Or 9 cS w1 wc.heap.size (.slice (some ⟨g9, 0, none⟩) bs.length c9) bs) := hO
              have hsw := hb1.size
              have hz9 : bs[0].size ≤ 64 := HI1.out.ok _ (List.getElem_mem hp)
              have HS0 : Hid (bs.getD 0 ByteArray.empty = bs[0]) := by show _ = _; simp [hp]
              obtain ⟨b0, hb0⟩ : ∃ b0, b0 = bs[0] := ⟨_, rfl⟩
              rw [← hb0] at hq0 hz9 HS0
              clear hO hb1 hb0
              go_upto_if 98 with fail
              go_cut [] (fun wx => BI w wx (.slice (some ⟨gH, 0, none⟩) bs.length cH) (.slice (some ⟨gV, 0, none⟩) bs.length cV) bs)
              case first =>
                by_cases hz0 : 0 < b0.size
                · have hz0' : 0 < (b0.size : Int) := by omega
                  obtain ⟨W, bc, hcv, hsb, hbW, hWz, hbc⟩ := sb_new b0 w1
                  have hlenS : b0.data.toList.length = b0.size := data_len b0
                  obtain ⟨c, hcx, hxr⟩ := xor_other b0[0] 1 (by omega) (by omega)
                  have hxr : Go.bits BinOp.xor IntKind.u8 (b0[0].toNat : Int) 1 = (c.toNat : Int) := hxr
                  have hne : hm ⟨(b0.data.toList.set 0 c).toArray⟩ ≠ hm b0 := hm_set b0 c hz0 hcx
                  have hkc := hsb.cell 0 (by omega)
                  have hkf := hsb.frozen 0 (by omega)
                  have e9 : b0.data.toList[0]'(by omega) = b0[0] := rfl
                  rw [e9] at hkc
                  have hsb2 := hsb.set 0 c
                  have hbc' : (0 : Int) < (bc : Int) := by omega
                  go_upto_region 20 with fail
                  have hO2 : Or 9 cS W wc.heap.size (.slice (some ⟨g9, 0, none⟩) bs.length c9) bs := HO.out.below' hbW
                  have hI2 := HI1.out.below hbW
                  have hO3 := hO2.other ⟨w1.heap.size, 0, none⟩ (.int .u8 (c.toNat : Int)) (.inr (by simp [Value.ownBlock]; omega))
                  have hI3 := hI2.setc ⟨w1.heap.size, 0, none⟩ (.int .u8 (c.toNat : Int)) (by simp [Value.ownBlock]; omega) (by simp [Value.ownBlock]; omega) (by show w.heap.size ≤ w1.heap.size; omega)
                  have hl2 : b0.size = (b0.data.toList.set 0 c).length := by rw [List.length_set, hlenS]
                  have hst := hsb2.string b0.size bc hl2
                  have hzc : ByteArray.size ⟨(b0.data.toList.set 0 c).toArray⟩ ≤ 64 := by show (b0.data.toList.set 0 c).toArray.size ≤ _; simp; exact hz9
                  clear hcv hsb hsb2 hkc hkf hxr hcx e9 hO2 hI2 hbW hWz hl2 hlenS hq0 hqf
                  generalize (⟨(b0.data.toList.set 0 c).toArray⟩ : ByteArray) = sc at *
                  generalize W.setCell ⟨w1.heap.size, 0, none⟩ (.int .u8 (c.toNat : Int)) = U at *
                  have hq0 := hO3.cell 0 hp
                  have hqf := hO3.frozen 0
                  have hO4 := hO3.set 0 sc
                  have hI4 := hI3.setc ⟨g9, 0, none⟩ (.string sc) (by simp [Value.ownBlock]; omega) (by simp [Value.ownBlock]; omega) (by show w.heap.size ≤ g9; omega)
                  have HF : Hid (Calls Try.prog 9 #[.slice (some ⟨gH, 0, none⟩) bs.length cH, .slice (some ⟨g9, 0, none⟩) bs.length c9] (U.setCell ⟨g9, 0, none⟩ (.string sc)) fun e w' => e = .returned (.int .i64 1) ∧ Below (U.setCell ⟨g9, 0, none⟩ (.string sc)).heap.size (U.setCell ⟨g9, 0, none⟩ (.string sc)) w') :=
                    fits_bent (i := 0) hI4 rfl hO4 (by simp) (by simp) (fun x hx => by
                      rcases List.mem_or_eq_of_mem_set hx with h | h
                      · exact hI4.ok x h
                      · rw [h]; exact hzc) hp (by rw [HS0.out]; simpa [hp] using hne)
                  have HI4 : Hid (BI w (U.setCell ⟨g9, 0, none⟩ (.string sc)) (.slice (some ⟨gH, 0, none⟩) bs.length cH) (.slice (some ⟨gV, 0, none⟩) bs.length cV) bs) := hI4
                  clear hO4 hI4 hO3 hI3
                  go_wp2_with fail
                  refine HF.out.mono ?_
                  rintro e w6 ⟨rfl, hb6⟩
                  have HI6 := HI4.out.below hb6
                  clear hb6 HI4 HF
                  go_wp2_with (go_at_call 7; refine (num6 _ _).mono ?_; rintro e w7 ⟨rfl, rfl⟩)
                  go_meet
                  exact HI6
                · have hz0' : ¬ 0 < (b0.size : Int) := by omega
                  go_wp2_with fail
                  go_meet
                  exact HI1.out
              case rest =>
                obtain ⟨wz, hwz⟩ : ∃ wz, wz = wc := ⟨_, rfl⟩
                rw [← hwz] at hcut ⊢
                clear hwz HI1 HO hq0 hqf hz9 HS0
                have HI2 : Hid (BI w wz (.slice (some ⟨gH, 0, none⟩) bs.length cH) (.slice (some ⟨gV, 0, none⟩) bs.length cV) bs) := hcut
                clear hcut
                by_cases h2 : 1 < bs.length
                · have h2' : (1 : Int) < (bs.length : Int) := by omega
                  have hd : decide ((1 : Int) < (bs.length : Int)) = true := decide_eq_true h2'
                  have hrH : Or 27 cU wz w.heap.size (.slice (some ⟨gH, 0, none⟩) (bs.map hm).length cH) (bs.map hm) := by rw [List.length_map]; exact HI2.out.rH
                  have k0 : wz.cell? ⟨gH, 0, none⟩ = some (.int .u64 (hm bs[0] : Int)) := by have := hrH.cell 0 (by simpa using hp); simpa using this
                  have k1 : wz.cell? ⟨gH, 1, none⟩ = some (.int .u64 (hm bs[1] : Int)) := by have := hrH.cell 1 (by simpa using h2); simpa using this
                  have HZ : Hid (bs.getD 0 ByteArray.empty = bs[0] ∧ (∀ x ∈ (bs.set 0 bs[1]).set 1 bs[0], x.size ≤ 64) ∧ ((bs.set 0 bs[1]).set 1 bs[0]).getD 0 ByteArray.empty = bs[1]) := ⟨by simp [hp], fun x hx => by
                      rcases List.mem_or_eq_of_mem_set hx with h | h
                      · rcases List.mem_or_eq_of_mem_set h with h | h
                        · exact HI2.out.ok x h
                        · rw [h]; exact HI2.out.ok _ (List.getElem_mem _)
                      · rw [h]; exact HI2.out.ok _ (List.getElem_mem _), by simp [hp]⟩
                  obtain ⟨b0, hb0⟩ : ∃ b0, b0 = bs[0] := ⟨_, rfl⟩
                  obtain ⟨b1, hb1⟩ : ∃ b1, b1 = bs[1] := ⟨_, rfl⟩
                  have HBB : Hid (b0 = bs[0] ∧ b1 = bs[1]) := ⟨hb0, hb1⟩
                  rw [← hb0, ← hb1] at HZ
                  rw [← hb0] at k0
                  rw [← hb1] at k1
                  clear hb0 hb1 hrH
                  by_cases hne : hm b0 = hm b1
                  · have hne' : ((hm b0 : Int) != (hm b1 : Int)) = false := by rw [bne_eq_false_iff_eq]; omega
                    generalize hm b0 = y0 at *
                    generalize hm b1 = y1 at *
                    clear hne
                    go_upto_region 23 with fail
                    go_quiet (fail)
                    go_wp2_with fail
                    go_roundw
                    case rel => exact ⟨i + 1, by omega, by omega, by go_num, bdrewN HI2.out.hB _⟩
                    case measure => simp [intOf]; omega
                  · have hne' : ((hm b0 : Int) != (hm b1 : Int)) = true := by rw [bne_iff_ne]; omega
                    have HN : Hid (hm b1 ≠ hm b0) := fun e => hne e.symm
                    generalize hm b0 = y0 at k0 hne'
                    generalize hm b1 = y1 at k1 hne'
                    clear hne
                    go_upto_region 23 with fail
                    go_quiet (fail)
                    go_upto_region 24 with fail
                    obtain ⟨wy, hwy⟩ : ∃ wy, wy = wz.drewN nq := ⟨_, rfl⟩
                    have hI3 : BI w wy (.slice (some ⟨gH, 0, none⟩) bs.length cH) (.slice (some ⟨gV, 0, none⟩) bs.length cV) bs := by rw [hwy]; exact HI2.out.below (bdrewN (Below.refl _ _) _)
                    rw [← hwy]
                    have HI3 : Hid (BI w wy (.slice (some ⟨gH, 0, none⟩) bs.length cH) (.slice (some ⟨gV, 0, none⟩) bs.length cV) bs) := hI3
                    have hgH3 := (hI3.rH.ge (k := gH) rfl).2
                    have hgV3 := (hI3.rB.ge (k := gV) rfl).2
                    clear hwy HI2 hI3 k0 k1
                    go_wp2_with fail
                    refine (blobs_copied HI3.out rfl).mono ?_
                    rintro e w1 ⟨⟨u, rfl, hO⟩, hb1⟩
                    obtain ⟨gX, cX, rfl, hcX, -, hgX, hgX'⟩ := hO.shape1 hp
                    have hsy := hb1.size
                    have hy0 := hgH0
                    have HI4 : Hid (BI w w1 (.slice (some ⟨gH, 0, none⟩) bs.length cH) (.slice (some ⟨gV, 0, none⟩) bs.length cV) bs) := HI3.out.below hb1
                    have q0 := hO.cell 0 hp
                    have q1 := hO.cell 1 h2
                    rw [← HBB.out.1] at q0
                    rw [← HBB.out.2] at q1
                    have f0 := hO.frozen 0
                    have f1 := hO.frozen 1
                    have HO : Hid (Or 9 cS w1 wy.heap.size (.slice (some ⟨gX, 0, none⟩) bs.length cX) bs) := hO
                    clear hO hb1 HI3
                    go_upto_region 25 with fail
                    go_cut [] (fun wx => BI w wx (.slice (some ⟨gH, 0, none⟩) bs.length cH) (.slice (some ⟨gV, 0, none⟩) bs.length cV) bs ∧ Or 9 cS wx wy.heap.size (.slice (some ⟨gX, 0, none⟩) bs.length cX) ((bs.set 0 b1).set 1 b0))
                    case first =>
                      go_region
                      have h1 : Or 9 cS (w1.setCell ⟨gX, 0, none⟩ (.string b1)) wy.heap.size (.slice (some ⟨gX, 0, none⟩) (bs.set 0 b1).length cX) (bs.set 0 b1) := by rw [List.length_set]; exact HO.out.set 0 b1
                      have h3 := h1.set 1 b0
                      rw [List.length_set] at h3
                      have h5 := ((HI4.out.setc ⟨gX, 0, none⟩ (.string b1) (by simp [Value.ownBlock]; omega) (by simp [Value.ownBlock]; omega) (by show w.heap.size ≤ gX; omega)).setc ⟨gX, 1, none⟩ (.string b0) (by simp [Value.ownBlock]; omega) (by simp [Value.ownBlock]; omega) (by show w.heap.size ≤ gX; omega)).below ((Below.refl _ _).drew)
                      try go_wp2_with fail
                      go_meet
                      exact ⟨h5, h3.drew⟩
                    case rest =>
                      obtain ⟨hI5, hO5⟩ := hcut
                      have HF : Hid (Calls Try.prog 9 #[.slice (some ⟨gH, 0, none⟩) bs.length cH, .slice (some ⟨gX, 0, none⟩) bs.length cX] wc fun e w' => e = .returned (.int .i64 1) ∧ Below wc.heap.size wc w') :=
                        fits_bent (i := 0) hI5 rfl hO5 (by simp) (by simp) HZ.out.2.1 hp (by rw [HZ.out.1, HZ.out.2.2]; exact HN.out)
                      have HI5 : Hid (BI w wc (.slice (some ⟨gH, 0, none⟩) bs.length cH) (.slice (some ⟨gV, 0, none⟩) bs.length cV) bs) := hI5
                      clear hI5 hO5 HI4 HO q0 q1 f0 f1
                      go_wp2_with fail
                      refine HF.out.mono ?_
                      rintro e w6 ⟨rfl, hb6⟩
                      have HI6 := (HI5.out.below hb6).hB
                      clear hb6 HI5 HF
                      go_wp2_with (go_at_call 7; refine (num6 _ _).mono ?_; rintro e w7 ⟨rfl, rfl⟩)
                      go_roundw
                      case rel => exact ⟨i + 1, by omega, by omega, by go_num, HI6⟩
                      case measure => simp [intOf]; omega
                · have h2' : ¬ (1 : Int) < (bs.length : Int) := by omega
                  have hd : decide ((1 : Int) < (bs.length : Int)) = false := decide_eq_false h2'
                  go_upto_region 23 with fail
                  go_quiet (fail)
                  go_wp2_with fail
                  go_roundw
                  case rel => exact ⟨i + 1, by omega, by omega, by go_num, bdrewN HI2.out.hB _⟩
                  case measure => simp [intOf]; omega
      · have hlt2' : ¬ (i : Int) < 12 := by omega
        go_wp2_with (go_at_call 12; refine (wakes6 _).mono ?_; rintro e w1 ⟨rfl, rfl⟩)
        go_ret
        exact ⟨rfl, hbo⟩
    · have hlt' : ¬ (i : Int) < (qs.length : Int) := by omega
      go_wp2_with (go_at_call 12; refine (wakes6 _).mono ?_; rintro e w1 ⟨rfl, rfl⟩)
      go_ret
      exact ⟨rfl, hbo⟩
end Go.Proofs.Ytnhmhedabdmnbaa
