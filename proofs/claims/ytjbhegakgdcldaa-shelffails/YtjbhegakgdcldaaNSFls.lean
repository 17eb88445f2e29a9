import Derived.Test.YtjbhegakgdcldaaShZ3
import Derived.Deep.CutBlock
set_option linter.unusedSimpArgs false
set_option linter.unusedVariables false
set_option maxRecDepth 100000
namespace Go.Proofs.Ytjbhegakgdcldaa
open Go.RowKit

/-! tarnlaw10.ShelfFails, walked. -/
theorem tx_str (W : World) (i : Nat) (hi : i < 4) : (convert 58 9 (.slice (some ⟨W.heap.size, 0, none⟩) 1 1)).run Try.prog (W.alloc (.cells #[.int .u8 (97 + (i : Int))] 5)) = .ok (.string (tx4 i)) (W.alloc (.cells #[.int .u8 (97 + (i : Int))] 5)) := by
  have hb := Bk.new W #[.int .u8 (97 + (i : Int))] 5
  have hr : Rb (W.alloc (.cells #[.int .u8 (97 + (i : Int))] 5)) (.slice (some ⟨W.heap.size, 0, none⟩) 1 1) [UInt8.ofNat (97 + i)] := ⟨some ⟨W.heap.size, 0, none⟩, 1, rfl, by simp, by simp, fun j hj => ⟨W.heap.size, 0, rfl, by
    have hj0 : j = 0 := by simpa using hj
    subst hj0
    rw [Nat.zero_add]
    refine (hb.cell 0).trans ?_
    simp
    omega⟩⟩
  have := rb_string hr (by simp)
  rw [this]
  rfl
set_option maxHeartbeats 16000000 in
theorem shelfFails_walk (w : World) (kv fv ov : Value) (la : Option Addr) (lm lc : Nat) (hlm : lm ≤ 9223372036854775807) :
    Calls Try.prog 5 #[.agg #[kv, fv, .slice la lm lc, ov]] w fun e w' => e = .returned (.bool true) ∧ Below w.heap.size w w' := by
  have HD : Hid (∀ W, Calls Try.prog 21 #[.slice none 0 0] W fun e w' => e = .returned (.pointer (some ⟨W.heap.size, 0, none⟩)) ∧ Below W.heap.size W w' ∧ ∃ O, D1 W w' W.heap.size O (dsN [] 8)) := fun W => disk10 W _ [] (Rl.nil9 W) (.inl rfl) sml_nil
  have HNu : Hid (∀ (z : Int) W, Calls Try.prog 23 #[.int .i64 z] W fun e w' => e = .returned (.int .i64 z) ∧ w' = W) := fun z W => num10 z W
  have HWk : Hid (∀ W, Calls Try.prog 33 #[] W fun e w' => e = .returned (.bool true) ∧ Below W.heap.size W w') := wakes10
  obtain ⟨i0, hi1, hi2, hi3, hi4⟩ := info_of infoS
  have HIn : Hid (Try.prog.info? 9 = some i0 ∧ i0.zero = some (.string ⟨#[]⟩) ∧ i0.size = 1 ∧ i0.bytes = 16) := ⟨hi1, hi2, hi3, hi4⟩
  clear hi1 hi2 hi3 hi4
  go_enter Try.func5, Try.ntmps5
  go_upto_region 1 with fail
  obtain ⟨W0, hW0⟩ : ∃ W0, W0 = w.alloc (.cells #[kv, fv, .slice la lm lc, ov] 25) := ⟨_, rfl⟩
  rw [← hW0]
  have hX : Bk W0 w.heap.size #[kv, fv, .slice la lm lc, ov] 25 := by rw [hW0]; exact Bk.new _ _ _
  have HB0 : Hid (Below w.heap.size w W0) := by show Below _ _ _; rw [hW0]; exact (Below.refl _ _).alloc (Nat.le_refl _) _
  obtain ⟨X, hXx⟩ : ∃ X, X = w.heap.size := ⟨_, rfl⟩
  rw [← hXx] at hX ⊢
  have HX : Hid (Bk W0 X #[kv, fv, .slice la lm lc, ov] 25) := hX
  clear hW0 hX hXx
  go_wp2_with fail
  go_loopw [3] (fun nv wr => ∃ n : Nat, 1 ≤ n ∧ n ≤ 13 ∧ nv = .int .i64 (n : Int) ∧ Hid (Below W0.heap.size W0 wr)) (fun nv _ => 14 - (intOf nv).toNat)
  case atStart => exact ⟨1, by omega, by omega, rfl, Below.refl _ _⟩
  case round =>
    obtain ⟨n, hn1, hn2, rfl, HB⟩ := hrel
    obtain ⟨wo5, hwo5⟩ : ∃ x, x = wr := ⟨_, rfl⟩
    subst hwo5
    by_cases hlt : n ≤ 12
    · have hlt' : (n : Int) ≤ 12 := by omega
      have HN : Hid (1 ≤ n ∧ n ≤ 12) := ⟨hn1, hlt⟩
      go_wp2_with (go_at_call 21; refine stop10 ?_)
      unfold Hold10
      refine Calls.mono (HD.out _) ?_
      rintro e w2 ⟨rfl, hb2, O2, h2⟩
      have H2 : Hid (D1 wo5 w2 wo5.heap.size O2 (dsN [] 8)) := h2
      clear h2 hb2
      obtain ⟨d, hd⟩ : ∃ d, d = wo5.heap.size := ⟨_, rfl⟩
      have HDz : Hid (d = wo5.heap.size) := hd
      rw [← hd] at H2 ⊢
      clear hd
      go_wp2_with (go_at_call 22; refine stop10 ?_)
      unfold Hold10
      refine Calls.mono (Sf.open (f := 1) (n := 128) H2.out (calm_new sml_nil 8) (by omega) (by omega) rfl) ?_
      rintro e w3 ⟨rfl, O3, P3, h3, _⟩
      obtain ⟨b, hb⟩ : ∃ b, b = w2.heap.size := ⟨_, rfl⟩
      rw [← hb] at h3 ⊢
      have H3 : Hid (TF wo5 w3 d b (f4 n 0).D (f4 n 0).ps (f4 n 0).fl (.slice none 0 0) (f4 n 0).l) := ⟨O3, P3, h3.sh, Or.nil _ _ _ _, fun g hg => by simp [Value.ownBlock] at hg⟩
      clear hb h3
      go_wp2_with (go_at_call 23; refine Calls.mono (HNu.out _ _) ?_; rintro e w9 ⟨rfl, hw9⟩; have hw9 := hw9.symm; subst hw9)
      go_loopw [7, 8] (fun lv iv wq => ∃ i : Nat, i ≤ 4 ∧ iv = .int .i64 (i : Int) ∧ Hid (TF wo5 wq d b (f4 n i).D (f4 n i).ps (f4 n i).fl lv (f4 n i).l)) (fun lv iv _ => 4 - (intOf iv).toNat)
      case atStart => exact ⟨0, by omega, rfl, H3.out⟩
      case round =>
        obtain ⟨i, hi, rfl, HT⟩ := hrel
        obtain ⟨la7, lc7, rfl, -⟩ : ∃ ad cap, u7 = .slice ad (f4 n i).l.length cap ∧ (f4 n i).l.length ≤ cap := by obtain ⟨O, P, _, r, _⟩ := HT.out; exact r.shape
        by_cases hi4 : i < 4
        · have hi4' : (i : Int) < 4 := by omega
          have hw97 : IntKind.i64.wrap (97 + (i : Int)) = 97 + (i : Int) := by rw [IntKind.wrap_i64]; omega
          have hw8 : IntKind.u8.wrap (97 + (i : Int)) = 97 + (i : Int) := by rw [IntKind.wrap_u8]; omega
          have HLn : Hid ((f4 n i).ps.length ≤ 4 ∧ (f4 n i).l.length ≤ 4 ∧ (f4 n (i + 1)).ps.length ≤ 4) := ⟨(lens4_at HN.out hi).1, (lens4_at HN.out hi).2, (lens4_at HN.out (i := i + 1) (by omega)).1⟩
          have HCh : Hid (chk4 n i = true) := chk4_at HN.out hi4
          by_cases hi1 : i = 1
          · subst hi1
            clear hw97 hw8 hi4'
            have HLn : Hid ((f4 n 1).ps.length ≤ 4 ∧ (f4 n 1).l.length ≤ 4 ∧ (f4 n 2).ps.length ≤ 4) := HLn.out
            have HFa : Hid (Calls Try.prog 40 #[.pointer (some ⟨d, 0, none⟩), .int .i64 (n : Int)] wr fun e w' => (∃ v, e = .returned v) ∧ TF wo5 w' d b (failD (f4 n 1).D n) (f4 n 1).ps (f4 n 1).fl (.slice la7 (f4 n 1).l.length lc7) (f4 n 1).l) := HT.out.fail n hlt
            go_wp2_with (go_at_call 40; refine stop10 ?_)
            unfold Hold10
            refine Calls.mono HFa.out ?_
            rintro e w6 ⟨⟨v6, rfl⟩, h6⟩
            have HA : Hid (TF wo5 w6 d b (armed n 1 (f4 n 1).D) (f4 n 1).ps (f4 n 1).fl (.slice la7 (f4 n 1).l.length lc7) (f4 n 1).l) := by show TF _ _ _ _ _ _ _ _ _; unfold armed; rw [if_pos rfl]; exact h6
            clear h6 HFa
            have hst := tx_str w6 1 (by omega); rw [show ((97 : Int) + ((1 : Nat) : Int)) = 98 from rfl] at hst
            have HP : Hid (Calls Try.prog 29 #[.pointer (some ⟨b, 0, none⟩), .string (tx4 1)] (w6.alloc (.cells #[.int .u8 (98)] 5)) fun e w' => e = .returned (.tuple #[.int .i64 (putR 1 128 (tx4 1) (armed n 1 (f4 n 1).D) (f4 n 1).ps (f4 n 1).fl).v, .int .i64 (putR 1 128 (tx4 1) (armed n 1 (f4 n 1).D) (f4 n 1).ps (f4 n 1).fl).e]) ∧ TF wo5 w' d b (f4 n (2)).D (f4 n (2)).ps (f4 n (2)).fl (.slice la7 (f4 n 1).l.length lc7) (f4 n 1).l) := (HA.out.below ((Below.refl _ _).alloc (Nat.le_refl _) _)).put (armed_few (f4_few n 1)) (by omega) HLn.out.1 (tx4 1)
            go_wp2_with (go_at_call 29; refine stop10 ?_)
            unfold Hold10
            refine Calls.mono HP.out ?_
            rintro e w7 ⟨rfl, h7⟩
            have H7 : Hid (TF wo5 w7 d b (f4 n (2)).D (f4 n (2)).ps (f4 n (2)).fl (.slice la7 (f4 n 1).l.length lc7) (f4 n 1).l) := h7
            clear h7 HP hst
            have hcc : ((putR 1 128 (tx4 1) (armed n 1 (f4 n 1).D) (f4 n 1).ps (f4 n 1).fl).e = 0 ∧ (f4 n (2)).l = (f4 n 1).l ++ [tx4 1]) ∨ ((putR 1 128 (tx4 1) (armed n 1 (f4 n 1).D) (f4 n 1).ps (f4 n 1).fl).e = 14 ∧ (f4 n (2)).fl = true ∧ txs (ents 0 (f4 n (2)).ps) = (f4 n 1).l ∧ (f4 n (2)).l = (f4 n 1).l) := chk4_case HCh.out
            generalize (putR 1 128 (tx4 1) (armed n 1 (f4 n 1).D) (f4 n 1).ps (f4 n 1).fl).v = pv7 at *
            generalize (putR 1 128 (tx4 1) (armed n 1 (f4 n 1).D) (f4 n 1).ps (f4 n 1).fl).e = pe7 at *
            have HFw : Hid (Few (f4 n (2)).D (2) ∧ (∀ x ∈ (f4 n 1).l, x.size ≤ 100)) := ⟨f4_few n (2), f4_sizes n 1⟩
            rcases hcc with ⟨rfl, hl7⟩ | ⟨rfl, hfl7, htx7, hl7⟩
            · have HSrc : Hid (Src Try.prog 1 52 (.slice (some ⟨w7.heap.size, 0, none⟩) 1 1) 1 [cS (tx4 1)] (w7.alloc (.cells #[.string (tx4 1)] 9))) := one_str (Bk.new _ _ _)
              have HRow : Hid ((w7.alloc (.cells #[.string (tx4 1)] 9)).ownsRow wo5.heap.size 9 1 (.slice la7 (f4 n 1).l.length lc7) (f4 n 1).l.length ((f4 n 1).l.map cS)) := by obtain ⟨O, P, _, r, _⟩ := H7.out; exact r.alloc _
              have hl4 : (f4 n 1).l.length ≤ 4 := HLn.out.2.1
              have HZ7 : Hid (wo5.heap.size ≤ w7.heap.size) := H7.out.bel.size
              have HL7 : Hid ((f4 n (2)).l = (f4 n 1).l ++ [tx4 1]) := hl7
              clear hl7
              go_wp2_with (first
                | (go_at_call 23; refine Calls.mono (HNu.out _ _) ?_; rintro e w9 ⟨rfl, hw9⟩; have hw9 := hw9.symm; subst hw9)
                | (at_builtin; refine wpList_append_src rfl _ _ 52 52 rfl wo5.heap.size 9 i0 (.string ⟨#[]⟩) 1 16 Try.underlying52 HIn.out.1 HIn.out.2.1 HIn.out.2.2.1 HIn.out.2.2.2 rfl (.slice la7 (f4 n 1).l.length lc7) (.slice (some ⟨w7.heap.size, 0, none⟩) 1 1) (f4 n 1).l.length ((f4 n 1).l.map cS) 1 [cS (tx4 1)] rfl rfl HRow.out HSrc.out (by unfold maxLen; omega) (by omega) (by simp; have := HZ7.out; omega) ?_; intro v3 w3 hown3 hgr3 hsn3; have H8 : Hid (TF wo5 w3 d b (f4 n (2)).D (f4 n (2)).ps (f4 n (2)).fl v3 ((f4 n 1).l ++ [tx4 1])) := H7.out.app hown3 hgr3 hsn3; clear hown3 hgr3 hsn3))
              have h8 := H8.out
              rw [← HL7.out] at h8
              go_roundw
              case rel => exact ⟨2, by omega, by go_num, h8⟩
              case measure => simp [intOf]
            · have H8 : Hid (TF wo5 w7 d b (f4 n (2)).D (f4 n (2)).ps true (.slice la7 (f4 n 1).l.length lc7) (f4 n 1).l) := by show TF _ _ _ _ _ _ _ _ _; rw [← hfl7]; exact H7.out
              have HL7 : Hid ((f4 n (2)).l = (f4 n 1).l ∧ (f4 n (2)).fl = true ∧ txs (ents 0 (f4 n (2)).ps) = (f4 n 1).l) := ⟨hl7, hfl7, htx7⟩
              have HDl : Hid (Calls Try.prog 25 #[.pointer (some ⟨b, 0, none⟩), .int .i64 0] w7 fun e w' => e = .returned (.int .i64 14) ∧ TF wo5 w' d b (f4 n (2)).D (f4 n (2)).ps true (.slice la7 (f4 n 1).l.length lc7) (f4 n 1).l) := H8.out.del HFw.out.1 (by omega) HLn.out.2.2
              have HFd : Hid (Calls Try.prog 32 #[.pointer (some ⟨b, 0, none⟩)] w7 fun e w' => e = .returned (.bool true) ∧ w' = w7) := H8.out.failed
              clear hl7 hfl7 htx7 H7
              go_wp2_with (first
                | (go_at_call 23; refine Calls.mono (HNu.out _ _) ?_; rintro e w9 ⟨rfl, hw9⟩; have hw9 := hw9.symm; subst hw9)
                | (go_at_call 32; refine Calls.mono HFd.out ?_; rintro e w9 ⟨rfl, hw9⟩; have hw9 := hw9.symm; subst hw9)
                | (go_at_call 25; refine stop10 ?_))
              unfold Hold10
              refine Calls.mono HDl.out ?_
              rintro e w8 ⟨rfl, h9⟩
              have H9 : Hid (TF wo5 w8 d b (f4 n (2)).D (f4 n (2)).ps true (.slice la7 (f4 n 1).l.length lc7) (f4 n 1).l) := h9
              clear h9 HDl HFd H8
              go_wp2_with (first
                | (go_at_call 23; refine Calls.mono (HNu.out _ _) ?_; rintro e w9 ⟨rfl, hw9⟩; have hw9 := hw9.symm; subst hw9)
                | (go_at_call 38; refine stop10 ?_))
              unfold Hold10
              refine Calls.mono (H9.out.texts (by have := HLn.out; omega)) ?_
              rintro e w10 ⟨v10, rfl, hr10, h10⟩
              rw [HL7.out.2.2] at hr10
              have HE10 : Hid (Calls Try.prog 41 #[v10, .slice la7 (f4 n 1).l.length lc7] w10 fun e w' => e = .returned (.bool true) ∧ TF wo5 w' d b (f4 n (2)).D (f4 n (2)).ps true (.slice la7 (f4 n 1).l.length lc7) (f4 n 1).l) := h10.eq hr10 HFw.out.2
              clear hr10 h10 H9
              go_wp2_with (go_at_call 41; refine stop10 ?_)
              unfold Hold10
              refine Calls.mono HE10.out ?_
              rintro e w11 ⟨rfl, h11⟩
              have H11 : Hid (TF wo5 w11 d b (f4 n (2)).D (f4 n (2)).ps (f4 n (2)).fl (.slice la7 (f4 n 1).l.length lc7) (f4 n (2)).l) := by show TF _ _ _ _ _ _ _ _ _; rw [HL7.out.1, HL7.out.2.1]; exact h11
              clear h11 HE10
              go_wp2_with fail
              go_roundw
              case rel => exact ⟨2, by omega, by go_num, H11.out⟩
              case measure => simp [intOf]
          · have hi1b : ((i : Int) == 1) = false := by rw [beq_eq_false_iff_ne]; omega
            have HA : Hid (TF wo5 wr d b (armed n i (f4 n i).D) (f4 n i).ps (f4 n i).fl (.slice la7 (f4 n i).l.length lc7) (f4 n i).l) := by show TF _ _ _ _ _ _ _ _ _; unfold armed; rw [if_neg hi1]; exact HT.out
            have hst := tx_str wr i (by omega)
            have HP : Hid (Calls Try.prog 29 #[.pointer (some ⟨b, 0, none⟩), .string (tx4 i)] (wr.alloc (.cells #[.int .u8 (97 + (i : Int))] 5)) fun e w' => e = .returned (.tuple #[.int .i64 (putR 1 128 (tx4 i) (armed n i (f4 n i).D) (f4 n i).ps (f4 n i).fl).v, .int .i64 (putR 1 128 (tx4 i) (armed n i (f4 n i).D) (f4 n i).ps (f4 n i).fl).e]) ∧ TF wo5 w' d b (f4 n (i + 1)).D (f4 n (i + 1)).ps (f4 n (i + 1)).fl (.slice la7 (f4 n i).l.length lc7) (f4 n i).l) := (HA.out.below ((Below.refl _ _).alloc (Nat.le_refl _) _)).put (armed_few (f4_few n i)) (by omega) HLn.out.1 (tx4 i)
            go_wp2_with (go_at_call 29; refine stop10 ?_)
            unfold Hold10
            refine Calls.mono HP.out ?_
            rintro e w7 ⟨rfl, h7⟩
            have H7 : Hid (TF wo5 w7 d b (f4 n (i + 1)).D (f4 n (i + 1)).ps (f4 n (i + 1)).fl (.slice la7 (f4 n i).l.length lc7) (f4 n i).l) := h7
            clear h7 HP hst
            have hcc : ((putR 1 128 (tx4 i) (armed n i (f4 n i).D) (f4 n i).ps (f4 n i).fl).e = 0 ∧ (f4 n (i + 1)).l = (f4 n i).l ++ [tx4 i]) ∨ ((putR 1 128 (tx4 i) (armed n i (f4 n i).D) (f4 n i).ps (f4 n i).fl).e = 14 ∧ (f4 n (i + 1)).fl = true ∧ txs (ents 0 (f4 n (i + 1)).ps) = (f4 n i).l ∧ (f4 n (i + 1)).l = (f4 n i).l) := chk4_case HCh.out
            generalize (putR 1 128 (tx4 i) (armed n i (f4 n i).D) (f4 n i).ps (f4 n i).fl).v = pv7 at *
            generalize (putR 1 128 (tx4 i) (armed n i (f4 n i).D) (f4 n i).ps (f4 n i).fl).e = pe7 at *
            have HFw : Hid (Few (f4 n (i + 1)).D (i + 1) ∧ (∀ x ∈ (f4 n i).l, x.size ≤ 100)) := ⟨f4_few n (i + 1), f4_sizes n i⟩
            rcases hcc with ⟨rfl, hl7⟩ | ⟨rfl, hfl7, htx7, hl7⟩
            · have HSrc : Hid (Src Try.prog 1 52 (.slice (some ⟨w7.heap.size, 0, none⟩) 1 1) 1 [cS (tx4 i)] (w7.alloc (.cells #[.string (tx4 i)] 9))) := one_str (Bk.new _ _ _)
              have HRow : Hid ((w7.alloc (.cells #[.string (tx4 i)] 9)).ownsRow wo5.heap.size 9 1 (.slice la7 (f4 n i).l.length lc7) (f4 n i).l.length ((f4 n i).l.map cS)) := by obtain ⟨O, P, _, r, _⟩ := H7.out; exact r.alloc _
              have hl4 : (f4 n i).l.length ≤ 4 := HLn.out.2.1
              have HZ7 : Hid (wo5.heap.size ≤ w7.heap.size) := H7.out.bel.size
              have HL7 : Hid ((f4 n (i + 1)).l = (f4 n i).l ++ [tx4 i]) := hl7
              clear hl7
              go_wp2_with (first
                | (go_at_call 23; refine Calls.mono (HNu.out _ _) ?_; rintro e w9 ⟨rfl, hw9⟩; have hw9 := hw9.symm; subst hw9)
                | (at_builtin; refine wpList_append_src rfl _ _ 52 52 rfl wo5.heap.size 9 i0 (.string ⟨#[]⟩) 1 16 Try.underlying52 HIn.out.1 HIn.out.2.1 HIn.out.2.2.1 HIn.out.2.2.2 rfl (.slice la7 (f4 n i).l.length lc7) (.slice (some ⟨w7.heap.size, 0, none⟩) 1 1) (f4 n i).l.length ((f4 n i).l.map cS) 1 [cS (tx4 i)] rfl rfl HRow.out HSrc.out (by unfold maxLen; omega) (by omega) (by simp; have := HZ7.out; omega) ?_; intro v3 w3 hown3 hgr3 hsn3; have H8 : Hid (TF wo5 w3 d b (f4 n (i + 1)).D (f4 n (i + 1)).ps (f4 n (i + 1)).fl v3 ((f4 n i).l ++ [tx4 i])) := H7.out.app hown3 hgr3 hsn3; clear hown3 hgr3 hsn3))
              have h8 := H8.out
              rw [← HL7.out] at h8
              go_roundw
              case rel => exact ⟨i + 1, by omega, by go_num, h8⟩
              case measure => simp [intOf]; omega
            · have H8 : Hid (TF wo5 w7 d b (f4 n (i + 1)).D (f4 n (i + 1)).ps true (.slice la7 (f4 n i).l.length lc7) (f4 n i).l) := by show TF _ _ _ _ _ _ _ _ _; rw [← hfl7]; exact H7.out
              have HL7 : Hid ((f4 n (i + 1)).l = (f4 n i).l ∧ (f4 n (i + 1)).fl = true ∧ txs (ents 0 (f4 n (i + 1)).ps) = (f4 n i).l) := ⟨hl7, hfl7, htx7⟩
              have HDl : Hid (Calls Try.prog 25 #[.pointer (some ⟨b, 0, none⟩), .int .i64 0] w7 fun e w' => e = .returned (.int .i64 14) ∧ TF wo5 w' d b (f4 n (i + 1)).D (f4 n (i + 1)).ps true (.slice la7 (f4 n i).l.length lc7) (f4 n i).l) := H8.out.del HFw.out.1 (by omega) HLn.out.2.2
              have HFd : Hid (Calls Try.prog 32 #[.pointer (some ⟨b, 0, none⟩)] w7 fun e w' => e = .returned (.bool true) ∧ w' = w7) := H8.out.failed
              clear hl7 hfl7 htx7 H7
              go_wp2_with (first
                | (go_at_call 23; refine Calls.mono (HNu.out _ _) ?_; rintro e w9 ⟨rfl, hw9⟩; have hw9 := hw9.symm; subst hw9)
                | (go_at_call 32; refine Calls.mono HFd.out ?_; rintro e w9 ⟨rfl, hw9⟩; have hw9 := hw9.symm; subst hw9)
                | (go_at_call 25; refine stop10 ?_))
              unfold Hold10
              refine Calls.mono HDl.out ?_
              rintro e w8 ⟨rfl, h9⟩
              have H9 : Hid (TF wo5 w8 d b (f4 n (i + 1)).D (f4 n (i + 1)).ps true (.slice la7 (f4 n i).l.length lc7) (f4 n i).l) := h9
              clear h9 HDl HFd H8
              go_wp2_with (first
                | (go_at_call 23; refine Calls.mono (HNu.out _ _) ?_; rintro e w9 ⟨rfl, hw9⟩; have hw9 := hw9.symm; subst hw9)
                | (go_at_call 38; refine stop10 ?_))
              unfold Hold10
              refine Calls.mono (H9.out.texts (by have := HLn.out; omega)) ?_
              rintro e w10 ⟨v10, rfl, hr10, h10⟩
              rw [HL7.out.2.2] at hr10
              have HE10 : Hid (Calls Try.prog 41 #[v10, .slice la7 (f4 n i).l.length lc7] w10 fun e w' => e = .returned (.bool true) ∧ TF wo5 w' d b (f4 n (i + 1)).D (f4 n (i + 1)).ps true (.slice la7 (f4 n i).l.length lc7) (f4 n i).l) := h10.eq hr10 HFw.out.2
              clear hr10 h10 H9
              go_wp2_with (go_at_call 41; refine stop10 ?_)
              unfold Hold10
              refine Calls.mono HE10.out ?_
              rintro e w11 ⟨rfl, h11⟩
              have H11 : Hid (TF wo5 w11 d b (f4 n (i + 1)).D (f4 n (i + 1)).ps (f4 n (i + 1)).fl (.slice la7 (f4 n i).l.length lc7) (f4 n (i + 1)).l) := by show TF _ _ _ _ _ _ _ _ _; rw [HL7.out.1, HL7.out.2.1]; exact h11
              clear h11 HE10
              go_wp2_with fail
              go_roundw
              case rel => exact ⟨i + 1, by omega, by go_num, H11.out⟩
              case measure => simp [intOf]; omega
        · have hi4' : ¬ (i : Int) < 4 := by omega
          obtain rfl : i = 4 := by omega
          have HEn : Hid ((f4 n 4).fl = !(decide ((f4 n 4).l.length = 4)) ∧ (opnR 1 128 (dsN ((List.range 8).map (crash (f4 n 4).D [])) 8)).e = 0 ∧ bagP 1 (f4 n 4).l (txs (ents 0 (ps5 n))) = true) := end4_case (end4_at HN.out)
          have HFd : Hid (Calls Try.prog 32 #[.pointer (some ⟨b, 0, none⟩)] wr fun e w' => e = .returned (.bool (!(decide ((f4 n 4).l.length = 4)))) ∧ w' = wr) := by have h := HT.out.failed; rw [HEn.out.1] at h; exact h
          have HAg : Hid (Calls Try.prog 27 #[.pointer (some ⟨d, 0, none⟩), .slice none 0 0] wr fun e w' => ∃ d', e = .returned (.pointer (some ⟨d', 0, none⟩)) ∧ TG wo5 w' d' (dsN ((List.range 8).map (crash (f4 n 4).D [])) 8) (.slice la7 (f4 n 4).l.length lc7) (f4 n 4).l) := HT.out.again (f4_few n 4) (by omega)
          have HSz : Hid (∀ x ∈ (f4 n 4).l, x.size ≤ 100) := f4_sizes n 4
          have HP5 : Hid ((ps5 n).length ≤ 8 ∧ ∀ x ∈ txs (ents 0 (ps5 n)), x.size ≤ 100) := ps5_at HN.out
          have HSm : Hid (Few (dsN ((List.range 8).map (crash (f4 n 4).D [])) 8) 0) := Few.new (small_crash (f4_few n 4) []) 8 0
          have HEnd : Hid (∀ w2 d', TG wo5 w2 d' (dsN ((List.range 8).map (crash (f4 n 4).D [])) 8) (.slice la7 (f4 n 4).l.length lc7) (f4 n 4).l → Calls Try.prog 22 #[.pointer (some ⟨d', 0, none⟩), .int .i64 1, .int .i64 128] w2 fun e w' => e = .returned (.tuple #[.pointer (some ⟨w2.heap.size, 0, none⟩), .int .i64 0]) ∧ ∃ D6, TF wo5 w' d' w2.heap.size D6 (ps5 n) false (.slice la7 (f4 n 4).l.length lc7) (f4 n 4).l) := fun w2 d' hg => (hg.open HSm.out HEn.out.2.1).mono fun e w' h => ⟨h.1, _, h.2⟩
          have HBn : Hid (bagP 1 (f4 n 4).l (txs (ents 0 (ps5 n))) = true) := HEn.out.2.2
          clear HEn
          by_cases hl4 : (f4 n 4).l.length = 4
          · have hd4 : decide ((f4 n 4).l.length = 4) = true := decide_eq_true hl4
            rw [hd4] at HFd
            rw [hl4] at HAg HEnd ⊢
            clear hd4 hl4
            go_wp2_with (first
              | (go_at_call 32; refine Calls.mono HFd.out ?_; rintro e w9 ⟨rfl, hw9⟩; have hw9 := hw9.symm; subst hw9)
              | (go_at_call 27; refine stop10 ?_))
            unfold Hold10
            refine Calls.mono HAg.out ?_
            rintro e w6 ⟨d6, rfl, h6⟩
            have H6 : Hid (TG wo5 w6 d6 (dsN ((List.range 8).map (crash (f4 n 4).D [])) 8) (.slice la7 4 lc7) (f4 n 4).l) := h6
            clear h6 HAg
            go_wp2_with (go_at_call 22; refine stop10 ?_)
            unfold Hold10
            refine Calls.mono (HEnd.out w6 d6 H6.out) ?_
            rintro e w7 ⟨rfl, D7, h7⟩
            have H7 : Hid (TF wo5 w7 d6 w6.heap.size D7 (ps5 n) false (.slice la7 4 lc7) (f4 n 4).l) := h7
            clear h7
            obtain ⟨b6, hb6⟩ : ∃ b6, b6 = w6.heap.size := ⟨_, rfl⟩
            rw [← hb6] at H7 ⊢
            clear hb6
            go_wp2_with (first
              | (go_at_call 23; refine Calls.mono (HNu.out _ _) ?_; rintro e w9 ⟨rfl, hw9⟩; have hw9 := hw9.symm; subst hw9)
              | (go_at_call 38; refine stop10 ?_))
            unfold Hold10
            refine Calls.mono (H7.out.texts (by have := HP5.out.1; omega)) ?_
            rintro e w10 ⟨v10, rfl, hr10, h10⟩
            have HBc : Hid (Calls Try.prog 37 #[.slice la7 4 lc7, v10, .int .i64 1] w10 fun e w' => e = .returned (.bool true) ∧ TF wo5 w' d6 b6 D7 (ps5 n) false (.slice la7 4 lc7) (f4 n 4).l) := by
              have h := h10.bag hr10 HSz.out HP5.out.2 (by have h1 := ents_le 0 (ps5 n); have h2 := HP5.out.1; simp [txs]; omega)
              rw [HBn.out] at h
              exact h
            clear hr10 h10 H7
            go_wp2_with (go_at_call 37; refine stop10 ?_)
            unfold Hold10
            refine Calls.mono HBc.out ?_
            rintro e w11 ⟨rfl, h11⟩
            have H11 : Hid (Below wo5.heap.size wo5 w11) := h11.bel
            clear h11 HBc
            have hbo := HB.out
            go_wp2_with fail
            go_roundw
            case rel => exact ⟨n + 1, by omega, by omega, by go_num, hbo.trans (H11.out.mono hbo.size)⟩
            case measure => simp [intOf]; omega
          · have hd4 : decide ((f4 n 4).l.length = 4) = false := decide_eq_false hl4
            rw [hd4] at HFd
            have hl4b : (((f4 n 4).l.length : Int) == 4) = false := by rw [beq_eq_false_iff_ne]; omega
            have hl4c : ¬ ((f4 n 4).l.length : Int) = 4 := by omega
            clear hd4
            go_wp2_with (first
              | (go_at_call 32; refine Calls.mono HFd.out ?_; rintro e w9 ⟨rfl, hw9⟩; have hw9 := hw9.symm; subst hw9)
              | (go_at_call 27; refine stop10 ?_))
            unfold Hold10
            refine Calls.mono HAg.out ?_
            rintro e w6 ⟨d6, rfl, h6⟩
            have H6 : Hid (TG wo5 w6 d6 (dsN ((List.range 8).map (crash (f4 n 4).D [])) 8) (.slice la7 (f4 n 4).l.length lc7) (f4 n 4).l) := h6
            clear h6 HAg
            go_wp2_with (go_at_call 22; refine stop10 ?_)
            unfold Hold10
            refine Calls.mono (HEnd.out w6 d6 H6.out) ?_
            rintro e w7 ⟨rfl, D7, h7⟩
            have H7 : Hid (TF wo5 w7 d6 w6.heap.size D7 (ps5 n) false (.slice la7 (f4 n 4).l.length lc7) (f4 n 4).l) := h7
            clear h7
            obtain ⟨b6, hb6⟩ : ∃ b6, b6 = w6.heap.size := ⟨_, rfl⟩
            rw [← hb6] at H7 ⊢
            clear hb6
            go_wp2_with (first
              | (go_at_call 23; refine Calls.mono (HNu.out _ _) ?_; rintro e w9 ⟨rfl, hw9⟩; have hw9 := hw9.symm; subst hw9)
              | (go_at_call 38; refine stop10 ?_))
            unfold Hold10
            refine Calls.mono (H7.out.texts (by have := HP5.out.1; omega)) ?_
            rintro e w10 ⟨v10, rfl, hr10, h10⟩
            have HBc : Hid (Calls Try.prog 37 #[.slice la7 (f4 n 4).l.length lc7, v10, .int .i64 1] w10 fun e w' => e = .returned (.bool true) ∧ TF wo5 w' d6 b6 D7 (ps5 n) false (.slice la7 (f4 n 4).l.length lc7) (f4 n 4).l) := by
              have h := h10.bag hr10 HSz.out HP5.out.2 (by have h1 := ents_le 0 (ps5 n); have h2 := HP5.out.1; simp [txs]; omega)
              rw [HBn.out] at h
              exact h
            clear hr10 h10 H7
            go_wp2_with (go_at_call 37; refine stop10 ?_)
            unfold Hold10
            refine Calls.mono HBc.out ?_
            rintro e w11 ⟨rfl, h11⟩
            have H11 : Hid (Below wo5.heap.size wo5 w11) := h11.bel
            clear h11 HBc
            have hbo := HB.out
            go_wp2_with fail
            go_roundw
            case rel => exact ⟨n + 1, by omega, by omega, by go_num, hbo.trans (H11.out.mono hbo.size)⟩
            case measure => simp [intOf]; omega
    · have hlt' : ¬ (n : Int) ≤ 12 := by omega
      have hb := HB.out
      have x2 : wo5.cell? ⟨X, 2, none⟩ = some (.slice la lm lc) := (hb.cell HX.out.lt).trans (by have := HX.out.cell 2; simpa using this)
      have hlm0 : (0 : Int) ≤ (lm : Int) := by omega
      go_wp2_with (go_at_call 33; refine Calls.mono (HWk.out _) ?_; rintro e w9 ⟨rfl, hb9⟩)
      go_ret
      exact ⟨rfl, HB0.out.trans ((hb.trans (hb9.mono hb.size)).mono HB0.out.size)⟩
end Go.Proofs.Ytjbhegakgdcldaa
