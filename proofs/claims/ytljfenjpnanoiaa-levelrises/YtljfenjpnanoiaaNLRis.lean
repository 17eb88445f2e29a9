import Derived.Test.YtljfenjpnanoiaaLvlE
import Derived.Test.YtljfenjpnanoiaaT3b
import Derived.Test.YtljfenjpnanoiaaDivC
import Derived.Test.YtljfenjpnanoiaaCmp
import Derived.Test.YtljfenjpnanoiaaWithin
import Derived.Deep.RegionWith
import Derived.Deep.DeepCutAuto
import Derived.Deep.CutBlock
import Derived.Deep.RegionHeld3
set_option linter.unusedSimpArgs false
set_option linter.unusedVariables false
namespace Go.Proofs.Ytljfenjpnanoiaa
open Go.RowKit

theorem low_one (n : Nat) : ∃ a : Nat, a < M256 / 4 ∧ (#[.int .u64 (lb n 0), .int .u64 0, .int .u64 0, .int .u64 0] : Array Value) = (A4 (lb (a) 0) (lb (a) 1) (lb (a) 2) (lb (a) 3)) := by
  have hl := lb_lim n
  obtain ⟨a, h1, h2, h3⟩ := V_of (lb n 0) 0 0 0 (by unfold Lim at *; omega)
  refine ⟨a, ?_, by simpa [V] using h2⟩
  unfold Lim at hl; unfold val at h3; unfold M256; omega
theorem low_four (n : Nat) : ∃ a : Nat, a < M256 / 4 ∧ (#[.int .u64 (lb n 0), .int .u64 (lb n 1), .int .u64 (lb n 2), .int .u64 (lb n 3 / 4)] : Array Value) = (A4 (lb (a) 0) (lb (a) 1) (lb (a) 2) (lb (a) 3)) := by
  have hl := lb_lim n
  obtain ⟨a, h1, h2, h3⟩ := V_of (lb n 0) (lb n 1) (lb n 2) (lb n 3 / 4) (by unfold Lim at *; omega)
  refine ⟨a, ?_, by simpa [V] using h2⟩
  unfold Lim at hl; unfold val at h3; unfold M256; omega
theorem double2 (a : Nat) (ha : a < M256) (h : a + a < M256) (w : World) : Calls Try.prog 9 #[V a] w fun e w' => e = .returned (.tuple #[V (a + a), .int .i64 0]) ∧ Below w.heap.size w w' := by
  have := double a ha w
  simpa only [addV, addOkE, h, if_true] using this
theorem div16 (a : Nat) (ha : a < M256) (w : World) : Calls Try.prog 17 #[V a, .agg (A4 16 0 0 0)] w fun e w' => e = .returned (.tuple #[V (a / 16), V (a % 16), .int .i64 0]) ∧ Below w.heap.size w w' := by
  have h := div a 16 ha (by decide) w
  rw [V_small 16 (by decide)] at h
  exact h
theorem addpart (a : Nat) (ha : a < M256) (h : a + a / 16 < M256) (w : World) : Calls Try.prog 18 #[V a, V (a / 16)] w fun e w' => e = .returned (.tuple #[V (a + a / 16), .int .i64 0]) ∧ Below w.heap.size w w' := by
  have := add a (a / 16) ha (by omega) w
  simpa only [addV, addOkE, h, if_true] using this
set_option maxRecDepth 100000 in
set_option maxHeartbeats 4000000 in
theorem levelRises_walk (v : Value) (ns : List Nat) (w : World) (hs : Sl w v ns) :
    Calls Try.prog 4 #[v] w fun e w' => e = .returned (.bool true) ∧ Below w.heap.size w w' := by
  obtain ⟨ad, cap, rfl, hat⟩ := hs.at
  have HA : Hid (∀ i (hi : i < ns.length), ∃ b off, ad = some ⟨b, off, none⟩ ∧ w.cell? ⟨b, off + i * 4, none⟩ = some (.int .u64 (lb ns[i] 0)) ∧ w.cell? ⟨b, off + i * 4 + 1, none⟩ = some (.int .u64 (lb ns[i] 1)) ∧ w.cell? ⟨b, off + i * 4 + 2, none⟩ = some (.int .u64 (lb ns[i] 2)) ∧ w.cell? ⟨b, off + i * 4 + 3, none⟩ = some (.int .u64 (lb ns[i] 3))) := hat
  have HS : Hid (Sl w (.slice ad ns.length cap) ns) := hs
  have hlen : ns.length ≤ 9223372036854775807 := hs.2.1
  clear hat hs
  go_enter Try.func4, Try.ntmps4
  go_wp2_with fail
  go_loopw [3] (fun i wr => ∃ k : Nat, k ≤ ns.length ∧ k ≤ 15 ∧ i = .int .i64 k ∧ Below w.heap.size w wr) (fun i _ => 15 - (intOf i).toNat)
  case atStart => exact ⟨0, by omega, by omega, rfl, Below.refl _ _⟩
  case round =>
    obtain ⟨i, hi1, hi2, rfl, hbo⟩ := hrel
    have hszo := hbo.size
    by_cases hlt : i < ns.length
    · have hlt' : (i : Int) < (ns.length : Int) := by omega
      by_cases hlt2 : i < 15
      · focus
          have hlt3 : (i : Int) < 15 := by omega
          obtain ⟨b, off, hadd, hc0, hc1, hc2, hc3⟩ := HA.out i hlt
          subst hadd
          have hc0 := (hbo.cell (p := ⟨b, off + i * 4, none⟩) (cell_lt hc0)).trans hc0
          have hc1 := (hbo.cell (p := ⟨b, off + i * 4 + 1, none⟩) (cell_lt hc1)).trans hc1
          have hc2 := (hbo.cell (p := ⟨b, off + i * 4 + 2, none⟩) (cell_lt hc2)).trans hc2
          have hc3 := (hbo.cell (p := ⟨b, off + i * 4 + 3, none⟩) (cell_lt hc3)).trans hc3
          generalize ns[i] = n at hc0 hc1 hc2 hc3
          go_upto_region 5 with fail
          have bA := Bk.new wr (A4 (lb (n) 0) (lb (n) 1) (lb (n) 2) (lb (n) 3)) 25
          have hB : Below wr.heap.size wr (wr.alloc (.cells (A4 (lb (n) 0) (lb (n) 1) (lb (n) 2) (lb (n) 3)) 25)) := (Below.refl _ _).alloc (Nat.le_refl _) _
          obtain ⟨A, hA⟩ : ∃ A, A = wr.heap.size := ⟨_, rfl⟩
          have hAw : wr.heap.size ≤ A := by omega
          rw [← hA] at bA ⊢
          clear hc0 hc1 hc2 hc3 hA
          generalize wr.alloc _ = wa at *
          have hBo := hbo.trans (hB.mono hszo)
          have hlb := lb_lim n
          have p0 := bA.cell 0; have pf0 := bA.frozen 0; have p1 := bA.cell 1; have pf1 := bA.frozen 1; have p2 := bA.cell 2; have pf2 := bA.frozen 2; have p3 := bA.cell 3; have pf3 := bA.frozen 3; simp only [List.getElem?_toArray, List.getElem?_cons_zero, List.getElem?_cons_succ] at p0 p1 p2 p3
          have hwi := fun w => within (i : Int) 3 (by omega) (by omega) w
          have HW : Hid (∀ w, Calls Try.prog 16 #[.int .i64 (i : Int), .int .i64 (3 : Int)] w fun e w' => (∃ k : Nat, k < 3 ∧ e = .returned (.int .i64 (k : Int))) ∧ w' = w) := hwi
          clear hwi
          go_upto_if 36 with (go_at_call 16; refine (HW.out _).mono ?_; rintro e w3 ⟨⟨z, hz, rfl⟩, rfl⟩)
          go_cut [4] (fun p wx => p = .pointer (some ⟨A, 0, none⟩) ∧ ∃ a : Nat, a < M256 / 4 ∧ Bk wx A (A4 (lb (a) 0) (lb (a) 1) (lb (a) 2) (lb (a) 3)) 25 ∧ Below wr.heap.size wr wx)
          case first =>
            have bA3 : Bk (wa.setCell ⟨A, 3, none⟩ (.int .u64 (lb n 3 / 4))) A #[.int .u64 (lb n 0), .int .u64 (lb n 1), .int .u64 (lb n 2), .int .u64 (lb n 3 / 4)] 25 := bA.set 3 _ rfl
            have hB3 := hB.setCell (p := ⟨A, 3, none⟩) hAw (.int .u64 (lb n 3 / 4))
            have lA3 := bA3.lt
            generalize wa.setCell _ _ = wd at *
            have q0 := bA3.cell 0; have qf0 := bA3.frozen 0; have q1 := bA3.cell 1; have qf1 := bA3.frozen 1; have q2 := bA3.cell 2; have qf2 := bA3.frozen 2; have q3 := bA3.cell 3; have qf3 := bA3.frozen 3; simp only [List.getElem?_toArray, List.getElem?_cons_zero, List.getElem?_cons_succ] at q0 q1 q2 q3
            by_cases hz1 : z = 1
            · subst hz1
              have HF : Hid (∃ a : Nat, a < M256 / 4 ∧ (#[.int .u64 (lb n 0), .int .u64 0, .int .u64 0, .int .u64 0] : Array Value) = (A4 (lb (a) 0) (lb (a) 1) (lb (a) 2) (lb (a) 3))) := low_one n
              go_wp2_with fail
              go_meet
              obtain ⟨a, ha, he⟩ := HF.out
              refine ⟨rfl, a, ha, ?_, ?_⟩
              · rw [← he]; exact ((bA3.set 1 _ rfl).set 2 _ rfl).set 3 _ rfl
              · exact ((hB3.setCell (p := ⟨A, 1, none⟩) hAw _).setCell (p := ⟨A, 2, none⟩) hAw _).setCell (p := ⟨A, 3, none⟩) hAw _
            · have hz2 : ((z : Int) == 1) = false := by rw [beq_eq_false_iff_ne]; omega
              have HF : Hid (∃ a : Nat, a < M256 / 4 ∧ (#[.int .u64 (lb n 0), .int .u64 (lb n 1), .int .u64 (lb n 2), .int .u64 (lb n 3 / 4)] : Array Value) = (A4 (lb (a) 0) (lb (a) 1) (lb (a) 2) (lb (a) 3))) := low_four n
              go_wp2_with fail
              go_meet
              obtain ⟨a, ha, he⟩ := HF.out
              refine ⟨rfl, a, ha, ?_, hB3⟩
              rw [← he]; exact bA3
          case rest =>
            obtain ⟨rfl, a, ha, bA, hB⟩ := hcut
            obtain ⟨we, rfl⟩ : ∃ we : World, we = wc := ⟨_, rfl⟩
            have hBo := hbo.trans (hB.mono hszo)
            have Hq : Hid (a < M256 / 4) := ha
            have haM : a < M256 := by unfold M256 at *; omega
            clear hB hlb p0 p1 p2 p3 pf0 pf1 pf2 pf3 hbo hAw HW
            have p0 := bA.cell 0; have pf0 := bA.frozen 0; have p1 := bA.cell 1; have pf1 := bA.frozen 1; have p2 := bA.cell 2; have pf2 := bA.frozen 2; have p3 := bA.cell 3; have pf3 := bA.frozen 3; simp only [List.getElem?_toArray, List.getElem?_cons_zero, List.getElem?_cons_succ] at p0 p1 p2 p3
            by_cases ha0 : a = 0
            · have hez : ∀ w, (binOp .eql 25 (V a) (.agg (A4 0 0 0 0))).run Try.prog w = .ok (.bool true) w := fun w => by rw [eql26_0 a haM, ha0]; rfl
              clear ha0 ha haM
              go_wp2_with fail
              go_roundw
              case rel => exact ⟨i + 1, by omega, by omega, by go_num, hBo⟩
              case measure => simp [intOf]; omega
            · have hez : ∀ w, (binOp .eql 25 (V a) (.agg (A4 0 0 0 0))).run Try.prog w = .ok (.bool false) w := fun w => by rw [eql26_0 a haM, decide_eq_false ha0]
              have h2M : a + a < M256 := by unfold M256 at *; omega
              have hpM : a + a / 16 < M256 := by unfold M256 at *; omega
              have Ha : Hid (a < M256) := haM
              have hdo := fun w => double2 a haM h2M w
              have hdv := fun w => div16 a haM w
              have had := fun w => addpart a haM hpM w
              have H2 : Hid (a + a < M256) := h2M
              have HP : Hid (a + a / 16 < M256) := hpM
              have h8 : lvl (a + a) = lvl a + 8 := lvl_double ha0
              have h1 : 1 ≤ lvl a := lvl_pos ha0
              have hm1 : lvl a ≤ lvl (a + a / 16) := lvl_mono (by omega)
              have hm2 : lvl (a + a / 16) ≤ lvl a + 1 := lvl_part ha0
              have hb1 := lvl_le haM
              clear ha0 ha haM h2M hpM
              generalize a + a = d2 at *
              generalize a + a / 16 = c2 at *
              generalize a / 16 = q2 at *
              generalize a % 16 = r2 at *
              go_upto_region 10 with (go_at_call 9; refine (hdo _).mono ?_; rintro e w1 ⟨rfl, hx1⟩)
              have bA := ((bA.below hx1 bA.lt).alloc (.cells (A4 (lb (d2) 0) (lb (d2) 1) (lb (d2) 2) (lb (d2) 3)) 25))
              have hsx := hx1.size
              have hBo := ((hBo.trans (hx1.mono hBo.size)).alloc (by first | (have := hBo.size; omega) | (simp; have := hBo.size; omega)) (.cells (A4 (lb (d2) 0) (lb (d2) 1) (lb (d2) 2) (lb (d2) 3)) 25))
              have bD := (Bk.new w1 (A4 (lb (d2) 0) (lb (d2) 1) (lb (d2) 2) (lb (d2) 3)) 25)
              obtain ⟨D, hD⟩ : ∃ z, z = w1.heap.size := ⟨_, rfl⟩
              rw [← hD] at bD ⊢
              clear hD hx1 hsx
              generalize World.alloc _ _ = wn0 at *
              clear p0 pf0 p1 pf1 p2 pf2 p3 pf3
              have p0 := bA.cell 0
              have pf0 := bA.frozen 0
              have p1 := bA.cell 1
              have pf1 := bA.frozen 1
              have p2 := bA.cell 2
              have pf2 := bA.frozen 2
              have p3 := bA.cell 3
              have pf3 := bA.frozen 3
              simp only [List.getElem?_toArray, List.getElem?_cons_zero, List.getElem?_cons_succ] at p0 p1 p2 p3
              go_upto_region 11 with (go_at_call 17; refine (hdv _).mono ?_; rintro e w1 ⟨rfl, hx1⟩)
              have bA := (((bA.below hx1 bA.lt).alloc (.cells (A4 (lb (q2) 0) (lb (q2) 1) (lb (q2) 2) (lb (q2) 3)) 25)).alloc (.cells (A4 (lb (r2) 0) (lb (r2) 1) (lb (r2) 2) (lb (r2) 3)) 25))
              have bD := (((bD.below hx1 bD.lt).alloc (.cells (A4 (lb (q2) 0) (lb (q2) 1) (lb (q2) 2) (lb (q2) 3)) 25)).alloc (.cells (A4 (lb (r2) 0) (lb (r2) 1) (lb (r2) 2) (lb (r2) 3)) 25))
              have hsx := hx1.size
              have hBo := (((hBo.trans (hx1.mono hBo.size)).alloc (by first | (have := hBo.size; omega) | (simp; have := hBo.size; omega)) (.cells (A4 (lb (q2) 0) (lb (q2) 1) (lb (q2) 2) (lb (q2) 3)) 25)).alloc (by first | (have := hBo.size; omega) | (simp; have := hBo.size; omega)) (.cells (A4 (lb (r2) 0) (lb (r2) 1) (lb (r2) 2) (lb (r2) 3)) 25))
              have bQ := ((Bk.new w1 (A4 (lb (q2) 0) (lb (q2) 1) (lb (q2) 2) (lb (q2) 3)) 25).alloc (.cells (A4 (lb (r2) 0) (lb (r2) 1) (lb (r2) 2) (lb (r2) 3)) 25))
              have bR : Bk ((w1.alloc (.cells (A4 (lb (q2) 0) (lb (q2) 1) (lb (q2) 2) (lb (q2) 3)) 25)).alloc (.cells (A4 (lb (r2) 0) (lb (r2) 1) (lb (r2) 2) (lb (r2) 3)) 25)) (w1.heap.size + 1) (A4 (lb (r2) 0) (lb (r2) 1) (lb (r2) 2) (lb (r2) 3)) 25 := Bk.new' _ _ _ (by simp)
              obtain ⟨Q, hQ⟩ : ∃ z, z = w1.heap.size := ⟨_, rfl⟩
              rw [← hQ] at bQ bR ⊢
              clear hQ hx1 hsx
              generalize Q + 1 = R at bR ⊢
              generalize World.alloc (World.alloc _ _) _ = wn1 at *
              clear p0 pf0 p1 pf1 p2 pf2 p3 pf3
              have p0 := bA.cell 0
              have pf0 := bA.frozen 0
              have p1 := bA.cell 1
              have pf1 := bA.frozen 1
              have p2 := bA.cell 2
              have pf2 := bA.frozen 2
              have p3 := bA.cell 3
              have pf3 := bA.frozen 3
              simp only [List.getElem?_toArray, List.getElem?_cons_zero, List.getElem?_cons_succ] at p0 p1 p2 p3
              have q0 := bQ.cell 0
              have qf0 := bQ.frozen 0
              have q1 := bQ.cell 1
              have qf1 := bQ.frozen 1
              have q2 := bQ.cell 2
              have qf2 := bQ.frozen 2
              have q3 := bQ.cell 3
              have qf3 := bQ.frozen 3
              simp only [List.getElem?_toArray, List.getElem?_cons_zero, List.getElem?_cons_succ] at q0 q1 q2 q3
              go_upto_region 12 with (go_at_call 18; refine (had _).mono ?_; rintro e w1 ⟨rfl, hx1⟩)
              have bA := ((bA.below hx1 bA.lt).alloc (.cells (A4 (lb (c2) 0) (lb (c2) 1) (lb (c2) 2) (lb (c2) 3)) 25))
              have bD := ((bD.below hx1 bD.lt).alloc (.cells (A4 (lb (c2) 0) (lb (c2) 1) (lb (c2) 2) (lb (c2) 3)) 25))
              have bQ := ((bQ.below hx1 bQ.lt).alloc (.cells (A4 (lb (c2) 0) (lb (c2) 1) (lb (c2) 2) (lb (c2) 3)) 25))
              have bR := ((bR.below hx1 bR.lt).alloc (.cells (A4 (lb (c2) 0) (lb (c2) 1) (lb (c2) 2) (lb (c2) 3)) 25))
              have hsx := hx1.size
              have hBo := ((hBo.trans (hx1.mono hBo.size)).alloc (by first | (have := hBo.size; omega) | (simp; have := hBo.size; omega)) (.cells (A4 (lb (c2) 0) (lb (c2) 1) (lb (c2) 2) (lb (c2) 3)) 25))
              have bE := (Bk.new w1 (A4 (lb (c2) 0) (lb (c2) 1) (lb (c2) 2) (lb (c2) 3)) 25)
              obtain ⟨E, hE⟩ : ∃ z, z = w1.heap.size := ⟨_, rfl⟩
              rw [← hE] at bE ⊢
              clear hE hx1 hsx
              generalize World.alloc _ _ = wn2 at *
              clear p0 pf0 p1 pf1 p2 pf2 p3 pf3 q0 qf0 q1 qf1 q2 qf2 q3 qf3
              have p0 := bA.cell 0
              have pf0 := bA.frozen 0
              have p1 := bA.cell 1
              have pf1 := bA.frozen 1
              have p2 := bA.cell 2
              have pf2 := bA.frozen 2
              have p3 := bA.cell 3
              have pf3 := bA.frozen 3
              simp only [List.getElem?_toArray, List.getElem?_cons_zero, List.getElem?_cons_succ] at p0 p1 p2 p3
              have r0 := bD.cell 0
              have rf0 := bD.frozen 0
              have r1 := bD.cell 1
              have rf1 := bD.frozen 1
              have r2 := bD.cell 2
              have rf2 := bD.frozen 2
              have r3 := bD.cell 3
              have rf3 := bD.frozen 3
              simp only [List.getElem?_toArray, List.getElem?_cons_zero, List.getElem?_cons_succ] at r0 r1 r2 r3
              have s0 := bE.cell 0
              have sf0 := bE.frozen 0
              have s1 := bE.cell 1
              have sf1 := bE.frozen 1
              have s2 := bE.cell 2
              have sf2 := bE.frozen 2
              have s3 := bE.cell 3
              have sf3 := bE.frozen 3
              simp only [List.getElem?_toArray, List.getElem?_cons_zero, List.getElem?_cons_succ] at s0 s1 s2 s3
              have hT : T3b D 0 A 0 E 0 d2 a c2 wn2 wn2 := ⟨r0, r1, r2, r3, p0, p1, p2, p3, s0, s1, s2, s3, Below.refl _ _⟩
              have H8 : Hid (lvl d2 = lvl a + 8) := h8
              have HM1 : Hid (lvl a ≤ lvl c2) := hm1
              have HM2 : Hid (lvl c2 ≤ lvl a + 1) := hm2
              have H1 : Hid (1 ≤ lvl a) := h1
              clear hdo hdv had h8 h1 hm1 hm2 hez bQ bR
              go_cut [86] (fun c wx => c = .bool false ∧ T3b D 0 A 0 E 0 d2 a c2 wn2 wx)
              case first =>
                have hw8 : IntKind.i64.wrap ((lvl a : Int) + 8) = (lvl a : Int) + 8 := by rw [IntKind.wrap_i64]; omega
                have hne8 : ((lvl d2 : Int) != (lvl a : Int) + 8) = false := by have := H8.out; rw [bne_eq_false_iff_eq]; omega
                have hlt1 : decide ((lvl a : Int) < 1) = false := by have := H1.out; simp; omega
                go_region_held3 (fun w' => w'.cell? ⟨D, 0, none⟩ = some (.int .u64 (lb d2 0)) ∧ w'.cell? ⟨D, 1, none⟩ = some (.int .u64 (lb d2 1)) ∧ w'.cell? ⟨D, 2, none⟩ = some (.int .u64 (lb d2 2)) ∧ w'.cell? ⟨D, 3, none⟩ = some (.int .u64 (lb d2 3)) ∧ w'.cell? ⟨A, 0, none⟩ = some (.int .u64 (lb a 0)) ∧ w'.cell? ⟨A, 1, none⟩ = some (.int .u64 (lb a 1)) ∧ w'.cell? ⟨A, 2, none⟩ = some (.int .u64 (lb a 2)) ∧ w'.cell? ⟨A, 3, none⟩ = some (.int .u64 (lb a 3)) ∧ w'.cell? ⟨E, 0, none⟩ = some (.int .u64 (lb c2 0)) ∧ w'.cell? ⟨E, 1, none⟩ = some (.int .u64 (lb c2 1)) ∧ w'.cell? ⟨E, 2, none⟩ = some (.int .u64 (lb c2 2)) ∧ w'.cell? ⟨E, 3, none⟩ = some (.int .u64 (lb c2 3)) ∧ Below wn2.heap.size wn2 w') ((show T3b D 0 A 0 E 0 d2 a c2 wn2 _; repeat (first | with_reducible exact hT | with_reducible refine T3b.drew ?_))) (first | (go_at_call 13; refine (num3_any _ _).mono ?_; rintro e w9 ⟨rfl, rfl⟩) | (go_at_call 11; refine (level _ (by first | exact H2.out | exact Ha.out) _).mono ?_; rintro e w2 ⟨rfl, hb2⟩; have hT := T3b.below (b := D) (o := 0) (B := A) (p := 0) (X := E) (q := 0) (a := d2) (c := a) (d := c2) (w0 := wn2) (by repeat (first | with_reducible exact hT | with_reducible refine T3b.drew ?_)) hb2))
                all_goals
                  go_wp2_with fail
                  go_meet
                  exact ⟨rfl, hT⟩
              case rest =>
                obtain ⟨rfl, hT⟩ := hcut
                obtain ⟨wf, rfl⟩ : ∃ wf : World, wf = wc := ⟨_, rfl⟩
                have bA := bA.below hT.bel bA.lt
                have bE := bE.below hT.bel bE.lt
                have hBo := hBo.trans (hT.bel.mono hBo.size)
                have hdi := fun w => dist c2 a HP.out Ha.out w
                have hn0 : decide ((lvl c2 : Int) - (lvl a : Int) < 0) = false := by have := HM1.out; simp; omega
                have hn1 : decide (1 < (lvl c2 : Int) - (lvl a : Int)) = false := by have := HM2.out; simp; omega
                clear p0 pf0 p1 pf1 p2 pf2 p3 pf3 r0 rf0 r1 rf1 r2 rf2 r3 rf3 s0 sf0 s1 sf1 s2 sf2 s3 sf3 hT
                have p0 := bA.cell 0; have pf0 := bA.frozen 0; have p1 := bA.cell 1; have pf1 := bA.frozen 1; have p2 := bA.cell 2; have pf2 := bA.frozen 2; have p3 := bA.cell 3; have pf3 := bA.frozen 3; simp only [List.getElem?_toArray, List.getElem?_cons_zero, List.getElem?_cons_succ] at p0 p1 p2 p3
                have q0 := bE.cell 0; have qf0 := bE.frozen 0; have q1 := bE.cell 1; have qf1 := bE.frozen 1; have q2 := bE.cell 2; have qf2 := bE.frozen 2; have q3 := bE.cell 3; have qf3 := bE.frozen 3; simp only [List.getElem?_toArray, List.getElem?_cons_zero, List.getElem?_cons_succ] at q0 q1 q2 q3
                generalize (lvl c2 : Int) - (lvl a : Int) = dd at hdi hn0 hn1
                clear bE
                go_wp2_with (go_at_call 14; refine (hdi _).mono ?_; rintro e w1 ⟨rfl, hx1⟩)
                have bA := bA.below hx1 bA.lt
                have hBo := hBo.trans (hx1.mono hBo.size)
                clear hdi hn0 hn1 hx1 p0 p1 p2 p3 pf0 pf1 pf2 pf3 q0 q1 q2 q3 qf0 qf1 qf2 qf3
                go_loopw [13] (fun j wr => ∃ k : Nat, k ≤ ns.length ∧ k ≤ 15 ∧ j = .int .i64 k ∧ Bk wr A (A4 (lb (a) 0) (lb (a) 1) (lb (a) 2) (lb (a) 3)) 25 ∧ Below w.heap.size w wr) (fun j _ => 15 - (intOf j).toNat)
                case atStart => exact ⟨0, by omega, by omega, rfl, bA, hBo⟩
                case round =>
                  clear bA hBo
                  obtain ⟨k, hk1, hk2, rfl, bA, hbk⟩ := hrel
                  have hszk := hbk.size
                  by_cases hkl : k < ns.length
                  · have hkl' : (k : Int) < (ns.length : Int) := by omega
                    by_cases hk15 : k < 15
                    · have hk15' : (k : Int) < 15 := by omega
                      obtain ⟨b', off', hab, hd0, hd1, hd2, hd3⟩ := HA.out k hkl
                      obtain ⟨rfl, rfl⟩ : b = b' ∧ off = off' := by simpa using hab
                      clear hab
                      have hd0 := (hbk.cell (p := ⟨b, off + k * 4, none⟩) (cell_lt hd0)).trans hd0
                      have hd1 := (hbk.cell (p := ⟨b, off + k * 4 + 1, none⟩) (cell_lt hd1)).trans hd1
                      have hd2 := (hbk.cell (p := ⟨b, off + k * 4 + 2, none⟩) (cell_lt hd2)).trans hd2
                      have hd3 := (hbk.cell (p := ⟨b, off + k * 4 + 3, none⟩) (cell_lt hd3)).trans hd3
                      have Hm : Hid (ns[k] < M256) := HS.out.1 _ (List.getElem_mem _)
                      generalize ns[k] = m at hd0 hd1 hd2 hd3 Hm
                      have p0 := bA.cell 0; have pf0 := bA.frozen 0; have p1 := bA.cell 1; have pf1 := bA.frozen 1; have p2 := bA.cell 2; have pf2 := bA.frozen 2; have p3 := bA.cell 3; have pf3 := bA.frozen 3; simp only [List.getElem?_toArray, List.getElem?_cons_zero, List.getElem?_cons_succ] at p0 p1 p2 p3
                      have hT : T3b b (off + k * 4) A 0 A 0 m a a wr wr := ⟨hd0, hd1, hd2, hd3, p0, p1, p2, p3, p0, p1, p2, p3, Below.refl _ _⟩
                      have b1 := lvl_le Ha.out
                      have b2 := lvl_le Hm.out
                      go_upto_region 20 with fail
                      go_cut [14] (fun c wx => c = .int .i64 (cmpV m a) ∧ T3b b (off + k * 4) A 0 A 0 m a a wr wx)
                      case first =>
                        go_region_held3 (fun w' => w'.cell? ⟨b, off + k * 4, none⟩ = some (.int .u64 (lb m 0)) ∧ w'.cell? ⟨b, off + k * 4 + 1, none⟩ = some (.int .u64 (lb m 1)) ∧ w'.cell? ⟨b, off + k * 4 + 2, none⟩ = some (.int .u64 (lb m 2)) ∧ w'.cell? ⟨b, off + k * 4 + 3, none⟩ = some (.int .u64 (lb m 3)) ∧ w'.cell? ⟨A, 0, none⟩ = some (.int .u64 (lb a 0)) ∧ w'.cell? ⟨A, 1, none⟩ = some (.int .u64 (lb a 1)) ∧ w'.cell? ⟨A, 2, none⟩ = some (.int .u64 (lb a 2)) ∧ w'.cell? ⟨A, 3, none⟩ = some (.int .u64 (lb a 3)) ∧ w'.cell? ⟨A, 0, none⟩ = some (.int .u64 (lb a 0)) ∧ w'.cell? ⟨A, 1, none⟩ = some (.int .u64 (lb a 1)) ∧ w'.cell? ⟨A, 2, none⟩ = some (.int .u64 (lb a 2)) ∧ w'.cell? ⟨A, 3, none⟩ = some (.int .u64 (lb a 3)) ∧ Below wr.heap.size wr w') ((show T3b b (off + k * 4) A 0 A 0 m a a wr _; repeat (first | with_reducible exact hT | with_reducible refine T3b.drew ?_))) ((go_at_call 19; refine (cmp m a Hm.out Ha.out _).mono ?_; rintro e w2 ⟨rfl, hb2⟩; have hT := T3b.below (b := b) (o := off + k * 4) (B := A) (p := 0) (X := A) (q := 0) (a := m) (c := a) (d := a) (w0 := wr) (by repeat (first | with_reducible exact hT | with_reducible refine T3b.drew ?_)) hb2))
                        all_goals
                          go_wp2_with fail
                          go_meet
                          exact ⟨rfl, hT⟩
                      case rest =>
                        obtain ⟨rfl, hT⟩ := hcut
                        obtain ⟨wg, rfl⟩ : ∃ wg : World, wg = wc := ⟨_, rfl⟩
                        have hT0 := hT
                        obtain ⟨hd0, hd1, hd2, hd3, p0, p1, p2, p3, _, _, _, _, _⟩ := hT0
                        go_upto_region 21 with fail
                        go_cut [15] (fun c wx => c = .int .i64 ((lvl m : Int) - (lvl a : Int)) ∧ T3b b (off + k * 4) A 0 A 0 m a a wr wx)
                        case first =>
                          go_region_held3 (fun w' => w'.cell? ⟨b, off + k * 4, none⟩ = some (.int .u64 (lb m 0)) ∧ w'.cell? ⟨b, off + k * 4 + 1, none⟩ = some (.int .u64 (lb m 1)) ∧ w'.cell? ⟨b, off + k * 4 + 2, none⟩ = some (.int .u64 (lb m 2)) ∧ w'.cell? ⟨b, off + k * 4 + 3, none⟩ = some (.int .u64 (lb m 3)) ∧ w'.cell? ⟨A, 0, none⟩ = some (.int .u64 (lb a 0)) ∧ w'.cell? ⟨A, 1, none⟩ = some (.int .u64 (lb a 1)) ∧ w'.cell? ⟨A, 2, none⟩ = some (.int .u64 (lb a 2)) ∧ w'.cell? ⟨A, 3, none⟩ = some (.int .u64 (lb a 3)) ∧ w'.cell? ⟨A, 0, none⟩ = some (.int .u64 (lb a 0)) ∧ w'.cell? ⟨A, 1, none⟩ = some (.int .u64 (lb a 1)) ∧ w'.cell? ⟨A, 2, none⟩ = some (.int .u64 (lb a 2)) ∧ w'.cell? ⟨A, 3, none⟩ = some (.int .u64 (lb a 3)) ∧ Below wr.heap.size wr w') ((show T3b b (off + k * 4) A 0 A 0 m a a wr _; repeat (first | with_reducible exact hT | with_reducible refine T3b.drew ?_))) ((go_at_call 14; refine (dist m a Hm.out Ha.out _).mono ?_; rintro e w2 ⟨rfl, hb2⟩; have hT := T3b.below (b := b) (o := off + k * 4) (B := A) (p := 0) (X := A) (q := 0) (a := m) (c := a) (d := a) (w0 := wr) (by repeat (first | with_reducible exact hT | with_reducible refine T3b.drew ?_)) hb2))
                          all_goals
                            go_wp2_with fail
                            go_meet
                            exact ⟨rfl, hT⟩
                        case rest =>
                          obtain ⟨rfl, hT⟩ := hcut
                          have bA := bA.below hT.bel bA.lt
                          have hbk := hbk.trans (hT.bel.mono hszk)
                          obtain ⟨c, dd, hc, hd, hcs⟩ : ∃ c dd : Int, cmpV m a = c ∧ (lvl m : Int) - (lvl a : Int) = dd ∧ ((c = -1 ∧ dd ≤ 0) ∨ (c = 0 ∧ dd = 0) ∨ (c = 1 ∧ 0 ≤ dd)) := by
                            refine ⟨_, _, rfl, rfl, ?_⟩
                            rcases Nat.lt_trichotomy m a with h | h | h
                            · have := lvl_mono (Nat.le_of_lt h)
                              exact .inl ⟨cmpV_less h, by omega⟩
                            · subst h
                              exact .inr (.inl ⟨by simp [cmpV], by omega⟩)
                            · have := lvl_mono (Nat.le_of_lt h)
                              have h7 : ¬ m < a := by omega
                              have h8 : ¬ m = a := by omega
                              exact .inr (.inr ⟨by simp [cmpV, h7, h8], by omega⟩)
                          rw [hc, hd]
                          clear hc hd hT hd0 hd1 hd2 hd3 p0 p1 p2 p3 b1 b2
                          rcases hcs with ⟨rfl, hdd⟩ | ⟨rfl, rfl⟩ | ⟨rfl, hdd⟩
                          · have hd8 : decide (0 < dd) = false := by simp; omega
                            clear hdd
                            go_wp2_with fail
                            go_roundw
                            case rel => exact ⟨k + 1, by omega, by omega, by go_num, bA, hbk⟩
                            case measure => simp [intOf]; omega
                          · go_wp2_with fail
                            go_roundw
                            case rel => exact ⟨k + 1, by omega, by omega, by go_num, bA, hbk⟩
                            case measure => simp [intOf]; omega
                          · have hd8 : decide (dd < 0) = false := by simp; omega
                            clear hdd
                            go_wp2_with fail
                            go_roundw
                            case rel => exact ⟨k + 1, by omega, by omega, by go_num, bA, hbk⟩
                            case measure => simp [intOf]; omega
                    · have hk8 : decide ((k : Int) < 15) = false := by simp; omega
                      go_wp2_with fail
                      go_roundw
                      case rel => exact ⟨i + 1, by omega, by omega, by go_num, hbk⟩
                      case measure => simp [intOf]; omega
                  · have hk9 : decide ((k : Int) < (ns.length : Int)) = false := by simp; omega
                    go_wp2_with fail
                    go_roundw
                    case rel => exact ⟨i + 1, by omega, by omega, by go_num, hbk⟩
                    case measure => simp [intOf]; omega
      · have hb8 : decide ((i : Int) < 15) = false := by simp; omega
        go_wp2_with (first | (go_at_call 11; refine (level0 _).mono ?_; rintro e w3 ⟨rfl, hb3⟩) | (go_at_call 15; refine (wakes3 _).mono ?_; rintro e w4 ⟨rfl, hb4⟩))
        go_ret
        have hs3 := hb3.size
        exact ⟨rfl, (hbo.trans (hb3.mono (by omega))).trans (hb4.mono (by omega))⟩
    · have hb9 : decide ((i : Int) < (ns.length : Int)) = false := by simp; omega
      go_wp2_with (first | (go_at_call 11; refine (level0 _).mono ?_; rintro e w3 ⟨rfl, hb3⟩) | (go_at_call 15; refine (wakes3 _).mono ?_; rintro e w4 ⟨rfl, hb4⟩))
      go_ret
      have hs3 := hb3.size
      exact ⟨rfl, (hbo.trans (hb3.mono (by omega))).trans (hb4.mono (by omega))⟩
end Go.Proofs.Ytljfenjpnanoiaa
