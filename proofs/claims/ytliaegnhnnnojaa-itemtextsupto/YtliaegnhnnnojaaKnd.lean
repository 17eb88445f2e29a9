import Derived.Test.YtliaegnhnnnojaaNIBck
import Derived.Test.YtliaegnhnnnojaaRTk
import Derived.Test.YtliaegnhnnnojaaSb
set_option linter.unusedSimpArgs false
set_option linter.unusedVariables false
namespace Go.Proofs.Ytliaegnhnnnojaa
open Go.RowKit

/-! tarnlaw4.kind, walked. -/
theorem pz_raw (a : IT) (h : ItOk a) : pz (st a.raw) = (a, 0) := by
  have ht : tk0 (st a.raw) = (a, a.raw.length, 0) := by
    have := tk_raw 16 (Nat.le_refl _) a [] h.1 h.2
    rw [List.append_nil] at this
    exact this
  have hz : (st a.raw).size = a.raw.length := st_size _
  have HP : pz (st a.raw) = if (tk0 (st a.raw)).2.2 ≠ 0 then (zIT, (tk0 (st a.raw)).2.2) else if (tk0 (st a.raw)).2.1 < (st a.raw).size then (zIT, 1) else ((tk0 (st a.raw)).1, 0) := rfl
  rw [HP, ht, hz]
  simp
theorem rd_three {W : World} {n g : Nat} {a x : IT} {s0 : Option Addr} {s1 s2 : Nat} (hr : Rd W n a.items (.slice s0 s1 s2)) (hx : x.items = [])
    (bk : Bk W g #[.bool a.list, .string a.text, .slice s0 s1 s2, .bool x.list, .string x.text, .slice none 0 0, .bool a.list, .string a.text, .slice s0 s1 s2] 26) : Rd W (n + 1) [a, x, a] (.slice (some ⟨g, 0, none⟩) 3 3) := by
  have hn : ∃ m, n = m + 1 := by cases n with
    | zero => exact hr.elim
    | succ m => exact ⟨m, rfl⟩
  refine ⟨by simp, some ⟨g, 0, none⟩, 3, rfl, fun i hi => ?_⟩
  have h3 : i = 0 ∨ i = 1 ∨ i = 2 := by simp at hi; omega
  rcases h3 with rfl | rfl | rfl
  · exact ⟨g, 0, rfl, _, bk.cell 0, bk.cell 1, bk.cell 2, ⟨s0, s1, s2, rfl⟩, hr⟩
  · obtain ⟨m, rfl⟩ := hn
    exact ⟨g, 0, rfl, _, bk.cell 3, bk.cell 4, bk.cell 5, ⟨none, 0, 0, rfl⟩, by show Rd W (m + 1) x.items _; rw [hx]; exact (rd_nil W (fun _ => True) m).rd⟩
  · exact ⟨g, 0, rfl, _, bk.cell 6, bk.cell 7, bk.cell 8, ⟨s0, s1, s2, rfl⟩, hr⟩
set_option maxRecDepth 100000 in
set_option maxHeartbeats 4000000 in
theorem kind_walk (n : Nat) (v : Value) (qs : List Q4) (lst : Bool) (w : World) (hq : Sq w n v qs) (hs : Small qs) :
    Calls Try.prog 22 #[v, .bool lst] w fun e w' => e = .returned (.bool true) ∧ Below w.heap.size w w' := by
  obtain ⟨hlen, ad, cap, rfl, hat⟩ := hq
  have HA : Hid (∀ i (hi : i < qs.length), ∃ b off, ad = some ⟨b, off, none⟩ ∧ ∃ a l c, w.cell? ⟨b, off + i * 4, none⟩ = some (.bool qs[i].it.list) ∧ w.cell? ⟨b, off + i * 4 + 1, none⟩ = some (.string qs[i].it.text) ∧ w.cell? ⟨b, off + i * 4 + 2, none⟩ = some (.slice a l c) ∧ w.cell? ⟨b, off + i * 4 + 3, none⟩ = some (.string qs[i].s) ∧ Rd w n qs[i].it.items (.slice a l c)) := hat
  have HS : Hid (∀ i (hi : i < qs.length), qs[i].it.wt ≤ 1048576) := fun i hi => (hs qs[i] (List.getElem_mem hi)).1
  clear hat hs
  go_enter Try.func22, Try.ntmps22
  go_wp2_with fail
  go_loopw [5] (fun i wr => ∃ k : Nat, k ≤ qs.length ∧ k ≤ 6 ∧ i = .int .i64 k ∧ Below w.heap.size w wr) (fun i _ => qs.length - (intOf i).toNat)
  case atStart => exact ⟨0, by omega, by omega, rfl, Below.refl _ _⟩
  case round =>
    obtain ⟨k, hk, hk6, rfl, hbo⟩ := hrel
    have hszo := hbo.size
    by_cases hlt : k < qs.length
    · have hlt' : (k : Int) < (qs.length : Int) := by omega
      by_cases h6 : k < 6
      · have h6' : (k : Int) < 6 := by omega
        obtain ⟨b, off, rfl, s0, s1, s2, c0, c1, c2, c3, hrd⟩ := HA.out k hlt
        have hbW0 : b < w.heap.size := cell_lt' c0
        have c0 := (hbo.cell (cell_lt' c0)).trans c0
        have c1 := (hbo.cell (cell_lt' c1)).trans c1
        have c2 := (hbo.cell (cell_lt' c2)).trans c2
        have c3 := (hbo.cell (cell_lt' c3)).trans c3
        have hrd := hrd.below hbo
        have hwt := HS.out k hlt
        generalize qs[k].it = a at *
        generalize qs[k].s = S at *
        have HRd : Hid (Rd wr n a.items (.slice s0 s1 s2)) := hrd
        clear hrd
        go_wp2_with fail
        refine (heavyU n a s0 s1 s2 S _ HRd.out).mono ?_
        rintro e w1 ⟨⟨hv, rfl, hhv⟩, hb1⟩
        cases hv with
        | true =>
          go_wp2_with fail
          go_ret
          exact ⟨rfl, hbo.trans (hb1.mono hszo)⟩
        | false =>
          generalize hla : a.list = la at *
          have HLa : Hid (a.list = la) := hla
          clear hla
          have hb1a := hb1.alloc hb1.size (.cells #[.bool la, .string a.text, .slice s0 s1 s2] 26)
          have hb1a' : Below w1.heap.size w1 (w1.alloc (.cells #[.bool la, .string a.text, .slice s0 s1 s2] 26)) := (Below.refl _ w1).alloc (Nat.le_refl _) _
          have d0 := (hb1.cell (cell_lt' c0)).trans c0
          have d1 := (hb1.cell (cell_lt' c1)).trans c1
          have d2 := (hb1.cell (cell_lt' c2)).trans c2
          have c0 := (hb1a.cell (cell_lt' c0)).trans c0
          have c1 := (hb1a.cell (cell_lt' c1)).trans c1
          have c2 := (hb1a.cell (cell_lt' c2)).trans c2
          have c3 := (hb1a.cell (cell_lt' c3)).trans c3
          have hsz : S.size ≤ 70000 := hhv rfl
          have bX := Bk.new w1 #[.bool la, .string a.text, .slice s0 s1 s2] 26
          obtain ⟨W, hW⟩ : ∃ W, W = w1.alloc (.cells #[.bool la, .string a.text, .slice s0 s1 s2] 26) := ⟨_, rfl⟩
          obtain ⟨X, hX⟩ : ∃ X, X = w1.heap.size := ⟨_, rfl⟩
          have HW : Hid (W = w1.alloc (.cells #[.bool la, .string a.text, .slice s0 s1 s2] 26) ∧ X = w1.heap.size) := ⟨hW, hX⟩
          have hbX : b < X := by rw [hX]; exact cell_lt' d0
          have hwX : w.heap.size ≤ X := by rw [hX]; exact Nat.le_trans hszo hb1.size
          rw [← hW] at c0 c1 c2 c3 hb1a hb1a' bX
          rw [← hX] at bX
          have H1 : Hid (RdP W (· < X) n a.items (.slice s0 s1 s2) ∧ Below w.heap.size w W ∧ Bk W X #[.bool la, .string a.text, .slice s0 s1 s2] 26) := ⟨hX ▸ (HRd.out.below hb1).P.below (hb1a' ), hbo.trans (hb1a.mono hszo), bX⟩
          clear hhv hb1 HRd hb1a hb1a' hW hX bX
          go_upto_region 7 with fail
          rw [← HW.out.1, ← HW.out.2]
          clear HW d0 d1 d2
          obtain ⟨p0, p1, p2⟩ := box_cells H1.out.2.2
          have f0 := H1.out.2.2.frozen 0
          have f1 := H1.out.2.2.frozen 1
          have f2 := H1.out.2.2.frozen 2
          have lX := H1.out.2.2.lt
          have hbw : b < W.heap.size := by omega
          go_upto_if 44 with fail
          go_cut [45] (fun _ wx => ∃ (a' : IT) (ad' : Option Addr) (l' c' m : Nat), Bk wx X #[.bool a'.list, .string a'.text, .slice ad' l' c'] 26 ∧ Rd wx m a'.items (.slice ad' l' c') ∧ a'.wt ≤ 4194304 ∧ Below w.heap.size w wx)
          case first =>
            have b9 := set3_Bk H1.out.2.2 (.bool false) (.string S) (.slice none 0 0)
            have hbel9 := set3_below H1.out.2.1 hwX (.bool false) (.string S) (.slice none 0 0)
            have hb9W : ∀ q, q < X → (((W.setCell ⟨X, 0, none⟩ (.bool false)).setCell ⟨X, 1, none⟩ (.string S)).setCell ⟨X, 2, none⟩ (.slice none 0 0)).heap[q]? = W.heap[q]? := fun q hq => ((Below.heap_setCell _ _ _ q (by show q ≠ X; omega)).trans (Below.heap_setCell _ _ _ q (by show q ≠ X; omega))).trans (Below.heap_setCell _ _ _ q (by show q ≠ X; omega))
            have e0 := (World.cell?_of_block (w := W) (hb9W b hbX)).trans c0
            have e1 := (World.cell?_of_block (w := W) (hb9W b hbX)).trans c1
            have e2 := (World.cell?_of_block (w := W) (hb9W b hbX)).trans c2
            have HB9 : Hid (Bk (((W.setCell ⟨X, 0, none⟩ (.bool false)).setCell ⟨X, 1, none⟩ (.string S)).setCell ⟨X, 2, none⟩ (.slice none 0 0)) X #[.bool false, .string S, .slice none 0 0] 26 ∧ Below w.heap.size w (((W.setCell ⟨X, 0, none⟩ (.bool false)).setCell ⟨X, 1, none⟩ (.string S)).setCell ⟨X, 2, none⟩ (.slice none 0 0)) ∧ Below X W (((W.setCell ⟨X, 0, none⟩ (.bool false)).setCell ⟨X, 1, none⟩ (.string S)).setCell ⟨X, 2, none⟩ (.slice none 0 0))) := ⟨b9, hbel9, set3_below (Below.refl _ _) (Nat.le_refl _) _ _ _⟩
            clear b9 hbel9 hb9W
            cases la <;> cases lst
            · go_wp2_with fail
              go_meet
              exact ⟨a, s0, s1, s2, n, by rw [HLa.out]; exact H1.out.2.2, H1.out.1.rd, by omega, H1.out.2.1⟩
            · go_upto_region 10 with fail
              generalize ((W.setCell ⟨X, 0, none⟩ (.bool false)).setCell ⟨X, 1, none⟩ (.string S)).setCell ⟨X, 2, none⟩ (.slice none 0 0) = U at e0 e1 e2 HB9 ⊢
              clear p0 p1 p2 f0 f1 f2 c0 c1 c2 c3
              obtain ⟨p0, p1, p2⟩ := box_cells HB9.out.1
              have f0 := HB9.out.1.frozen 0
              have f1 := HB9.out.1.frozen 1
              have f2 := HB9.out.1.frozen 2
              have lXU := HB9.out.1.lt
              have hbU : b < U.heap.size := by omega
              go_region
              all_goals
                have b10 := set3_Bk HB9.out.1 (.bool true) (.string ⟨#[]⟩) (.slice (some ⟨U.heap.size, 0, none⟩) 3 3)
                have hbel10 := set3_below HB9.out.2.1 hwX (.bool true) (.string ⟨#[]⟩) (.slice (some ⟨U.heap.size, 0, none⟩) 3 3)
                have hbx10 := set3_below HB9.out.2.2 (Nat.le_refl X) (.bool true) (.string ⟨#[]⟩) (.slice (some ⟨U.heap.size, 0, none⟩) 3 3)
                have hz10 : (((U.setCell ⟨X, 0, none⟩ (.bool true)).setCell ⟨X, 1, none⟩ (.string ⟨#[]⟩)).setCell ⟨X, 2, none⟩ (.slice (some ⟨U.heap.size, 0, none⟩) 3 3)).heap.size = U.heap.size := by simp
                generalize ((U.setCell ⟨X, 0, none⟩ (.bool true)).setCell ⟨X, 1, none⟩ (.string ⟨#[]⟩)).setCell ⟨X, 2, none⟩ (.slice (some ⟨U.heap.size, 0, none⟩) 3 3) = U2 at *
                have b11 : Bk (U2.alloc (.cells #[.bool false, .string a.text, .slice s0 s1 s2, .bool false, .string S, .slice none 0 0, .bool false, .string a.text, .slice s0 s1 s2] 26)).drew U.heap.size #[.bool false, .string a.text, .slice s0 s1 s2, .bool false, .string S, .slice none 0 0, .bool false, .string a.text, .slice s0 s1 s2] 26 := (Bk.new' _ _ _ hz10.symm).drew
                have hbx11 := (hbx10.alloc (show X ≤ U2.heap.size by omega) (.cells #[.bool false, .string a.text, .slice s0 s1 s2, .bool false, .string S, .slice none 0 0, .bool false, .string a.text, .slice s0 s1 s2] 26)).drew
                have hbel11 := (hbel10.alloc (show w.heap.size ≤ U2.heap.size by omega) (.cells #[.bool false, .string a.text, .slice s0 s1 s2, .bool false, .string S, .slice none 0 0, .bool false, .string a.text, .slice s0 s1 s2] 26)).drew
                have hr11 : Rd (U2.alloc (.cells #[.bool false, .string a.text, .slice s0 s1 s2, .bool false, .string S, .slice none 0 0, .bool false, .string a.text, .slice s0 s1 s2] 26)).drew (n + 1) [a, .mk false S [], a] (.slice (some ⟨U.heap.size, 0, none⟩) 3 3) := rd_three (x := .mk false S []) (H1.out.1.below hbx11).rd rfl (by rw [HLa.out]; exact b11)
                have b12 := (b10.alloc (.cells #[.bool false, .string a.text, .slice s0 s1 s2, .bool false, .string S, .slice none 0 0, .bool false, .string a.text, .slice s0 s1 s2] 26)).drew
                go_wp2_with fail
                go_meet
                exact ⟨.mk true ⟨#[]⟩ [a, .mk false S [], a], _, _, _, n + 1, b12, hr11, by have hz : (⟨#[]⟩ : ByteArray).size = 0 := rfl; simp only [IT.wt, IT.wts, hz]; omega, hbel11⟩
            · go_wp2_with fail
              go_meet
              exact ⟨.mk false S [], none, 0, 0, 1, HB9.out.1, (rd_nil _ (fun _ => True) 0).rd, by simp [IT.wt, IT.wts]; omega, HB9.out.2.1⟩
            · go_wp2_with fail
              go_meet
              exact ⟨a, s0, s1, s2, n, by rw [HLa.out]; exact H1.out.2.2, H1.out.1.rd, by omega, H1.out.2.1⟩
          case rest =>
            obtain ⟨a', ad', l', c', m, bX, hrdx, hwtx, hB⟩ := hcut
            clear H1 c0 c1 c2 c3 p0 p1 p2 f0 f1 f2 hwt hbw lX HLa
            have HBy : Hid (Calls Try.prog 19 #[.agg #[.bool a'.list, .string a'.text, .slice ad' l' c']] wc fun e w' => e = .returned (.tuple #[.string (itS a'), .int .i64 (ckE a')]) ∧ Below wc.heap.size wc w') := bytes' m a' ad' l' c' wc hrdx (by omega)
            have HIt : Hid (∀ W', Below wc.heap.size wc W' → Calls Try.prog 38 #[.agg #[.bool a'.list, .string a'.text, .slice ad' l' c']] W' fun e w' => e = .returned (.tuple #[.string (itS a'), .bool (decide (ItOk a'))]) ∧ Below W'.heap.size W' w') := fun W' h => ritem m a' ad' l' c' W' (hrdx.below h) (by omega)
            have HR : Hid (Rd wc m a'.items (.slice ad' l' c') ∧ Below w.heap.size w wc ∧ Bk wc X #[.bool a'.list, .string a'.text, .slice ad' l' c'] 26) := ⟨hrdx, hB, bX⟩
            have hvar : (ItOk a' ∧ itS a' = st a'.raw ∧ ckE a' = 0 ∧ decide (ItOk a') = true) ∨ (ckE a' = 1 ∧ decide (ItOk a') = false) := by
              by_cases hok : ItOk a'
              · exact .inl ⟨hok, if_pos hok, if_pos hok, decide_eq_true hok⟩
              · exact .inr ⟨if_neg hok, decide_eq_false hok⟩
            obtain ⟨p0, p1, p2⟩ := box_cells bX
            have lXc := bX.lt
            generalize itS a' = R at *
            generalize ckE a' = ek at *
            generalize decide (ItOk a') = od at *
            clear hrdx hwtx hB bX
            have HVar : Hid ((ItOk a' ∧ R = st a'.raw ∧ ek = 0 ∧ od = true) ∨ (ek = 1 ∧ od = false)) := hvar
            clear hvar
            go_wp2_with fail
            refine HBy.out.mono ?_
            rintro e w2 ⟨rfl, hb2⟩
            have p0 := (hb2.cell (cell_lt' p0)).trans p0
            have p1 := (hb2.cell (cell_lt' p1)).trans p1
            have p2 := (hb2.cell (cell_lt' p2)).trans p2
            have lX2 : X < w2.heap.size := cell_lt' p0
            go_wp2_with fail
            refine (HIt.out _ hb2).mono ?_
            rintro e w3 ⟨rfl, hb3⟩
            have hb3 := hb2.trans (hb3.mono hb2.size)
            clear HIt HBy hb2 p0 p1 p2 lX2
            have HR3 : Hid (Rd w3 m a'.items (.slice ad' l' c') ∧ Below w.heap.size w w3 ∧ Bk w3 X #[.bool a'.list, .string a'.text, .slice ad' l' c'] 26) := ⟨HR.out.1.below hb3, HR.out.2.1.trans (hb3.mono HR.out.2.1.size), HR.out.2.2.below hb3 lXc⟩
            clear HR hb3 lXc
            rcases HVar.out with ⟨hok, hR, rfl, rfl⟩ | ⟨rfl, rfl⟩
            · clear HVar
              have hpz := pz_raw a' hok
              rw [← hR] at hpz
              have hR6 : R.size ≤ 65536 := by rw [hR, st_size]; exact hok.2
              have HPa : Hid (∀ W, Calls Try.prog 17 #[.string R] W fun e w' => (∃ ad l c, e = .returned (.tuple #[.agg #[.bool a'.list, .string a'.text, .slice ad l c], .int .i64 0]) ∧ RdP w' (W.heap.size ≤ ·) 18 a'.items (.slice ad l c)) ∧ Below W.heap.size W w') := fun W => by
                have := iParse R W (by omega)
                unfold PaQ at this
                rw [hpz] at this
                exact this
              clear hpz hok hR
              go_wp2_with (first | (go_at_call 14; refine (num4 _ _).mono ?_; rintro e w7 ⟨rfl, rfl⟩) | fail)
              refine (HPa.out _).mono ?_
              rintro e w4 ⟨⟨y0, y1, y2, rfl, hrd4⟩, hb4⟩
              have hb4a := hb4.alloc hb4.size (.cells #[.bool a'.list, .string a'.text, .slice y0 y1 y2] 26)
              have bY := Bk.new w4 #[.bool a'.list, .string a'.text, .slice y0 y1 y2] 26
              have hrd4 := hrd4.rd.alloc (.cells #[.bool a'.list, .string a'.text, .slice y0 y1 y2] 26)
              obtain ⟨V, hV⟩ : ∃ V, V = w4.alloc (.cells #[.bool a'.list, .string a'.text, .slice y0 y1 y2] 26) := ⟨_, rfl⟩
              obtain ⟨Y, hY⟩ : ∃ Y, Y = w4.heap.size := ⟨_, rfl⟩
              have HV : Hid (V = w4.alloc (.cells #[.bool a'.list, .string a'.text, .slice y0 y1 y2] 26) ∧ Y = w4.heap.size) := ⟨hV, hY⟩
              rw [← hV] at hb4a hrd4 bY
              rw [← hY] at bY
              have bXV := HR3.out.2.2.below hb4a HR3.out.2.2.lt
              have HEq : Hid (Calls Try.prog 15 #[.agg #[.bool a'.list, .string a'.text, .slice y0 y1 y2], .agg #[.bool a'.list, .string a'.text, .slice ad' l' c']] V fun e w' => e = .returned (.bool true) ∧ Below V.heap.size V w') := eqSame 18 m a' y0 ad' y1 y2 l' c' V hrd4 (HR3.out.1.below hb4a)
              have HBV : Hid (Below w.heap.size w V) := HR3.out.2.1.trans (hb4a.mono HR3.out.2.1.size)
              obtain ⟨p0, p1, p2⟩ := box_cells bXV
              obtain ⟨q0, q1, q2⟩ := box_cells bY
              have lXV := bXV.lt
              have lYV := bY.lt
              clear hV hY hb4 hb4a hrd4 bY bXV HR3 HPa
              go_upto_region 17 with fail
              rw [← HV.out.1, ← HV.out.2]
              clear HV
              go_wp2_with (first | (go_at_call 14; refine (num4 _ _).mono ?_; rintro e w7 ⟨rfl, rfl⟩) | (go_at_call 15; refine (HEq.out).mono ?_; rintro e w8 ⟨rfl, hb8⟩) | fail)
              have HB8 : Hid (Below w.heap.size w w8) := HBV.out.trans (hb8.mono HBV.out.size)
              clear HEq HBV hb8 p0 p1 p2 q0 q1 q2 lXV lYV
              go_loopw [13] (fun j wx => ∃ m : Nat, m ≤ R.size ∧ m ≤ 12 ∧ j = .int .i64 m ∧ Below w.heap.size w wx) (fun j _ => R.size - (intOf j).toNat)
              case atStart => exact ⟨0, by omega, by omega, rfl, HB8.out⟩
              case round =>
                obtain ⟨q, hq, hq12, rfl, hbq⟩ := hrel
                have hszq := hbq.size
                by_cases hqR : q < R.size
                · have hqR' : (q : Int) < (R.size : Int) := by omega
                  by_cases hq2 : q < 12
                  · have hq2' : (q : Int) < 12 := by omega
                    obtain ⟨W9, bc, hcv, hsb, hbW, hWz, hbc⟩ := sb_new R wr
                    have HSb : Hid (Sb W9 wr.heap.size R.data.toList) := hsb
                    have hlenR : R.data.toList.length = R.size := data_len4 R
                    have hkc := hsb.cell q (by omega)
                    have hkf := hsb.frozen q (by omega)
                    have lSb := hsb.lt
                    generalize hxq : R.data.toList[q]'(by omega) = xq at *
                    clear hsb hxq
                    obtain ⟨c, hxv⟩ : ∃ c : UInt8, Go.bits BinOp.xor IntKind.u8 (xq.toNat : Int) (1 + ((k : Int) * 31 + (q : Int)) % 255) = (c.toNat : Int) := by
                      obtain ⟨c, _, h⟩ := xor_other xq (1 + (k * 31 + q) % 255) (by omega) (by omega)
                      exact ⟨c, by rw [← h]; congr 1⟩
                    go_upto_region 24 with fail
                    have hsb2 := HSb.out.set q c
                    have hB2 : Below w.heap.size w (W9.setCell ⟨wr.heap.size, q, none⟩ (.int .u8 (c.toNat : Int))) := (hbq.trans (hbW.mono hszq)).setCell (p := ⟨wr.heap.size, q, none⟩) hszq _
                    generalize W9.setCell ⟨wr.heap.size, q, none⟩ (.int .u8 (c.toNat : Int)) = U at *
                    have hl2 : R.size = (R.data.toList.set q c).length := by rw [List.length_set, hlenR]
                    have hst0 := hsb2.string R.size bc hl2
                    have hTz : ByteArray.size ⟨(R.data.toList.set q c).toArray⟩ ≤ 1099511627776 := by show (R.data.toList.set q c).toArray.size ≤ _; simp; exact Nat.le_trans hR6 (by omega)
                    have HT : Hid (∀ W, Calls Try.prog 12 #[.string ⟨(R.data.toList.set q c).toArray⟩] W fun e w' => (∃ ad l c', e = .returned (.tuple #[.agg #[.bool (tk0 ⟨(R.data.toList.set q c).toArray⟩).1.list, .string (tk0 ⟨(R.data.toList.set q c).toArray⟩).1.text, .slice ad l c'], .int .i64 ((tk0 ⟨(R.data.toList.set q c).toArray⟩).2.1 : Int), .int .i64 ((tk0 ⟨(R.data.toList.set q c).toArray⟩).2.2 : Int)]) ∧ RdP w' (W.heap.size ≤ ·) 18 (tk0 ⟨(R.data.toList.set q c).toArray⟩).1.items (.slice ad l c')) ∧ Below W.heap.size W w') := fun W => iTake _ W hTz
                    have HRT : Hid (∀ W, Calls Try.prog 13 #[.string ⟨(R.data.toList.set q c).toArray⟩] W fun e w' => (∃ ad l c', e = .returned (.tuple #[.agg #[.bool (tk0 ⟨(R.data.toList.set q c).toArray⟩).1.list, .string (tk0 ⟨(R.data.toList.set q c).toArray⟩).1.text, .slice ad l c'], .int .i64 ((tk0 ⟨(R.data.toList.set q c).toArray⟩).2.1 : Int), .int .i64 ((tk0 ⟨(R.data.toList.set q c).toArray⟩).2.2 : Int)]) ∧ RdP w' (W.heap.size ≤ ·) 18 (tk0 ⟨(R.data.toList.set q c).toArray⟩).1.items (.slice ad l c')) ∧ Below W.heap.size W w') := fun W => rTake _ W hTz
                    have HSb2 : Hid (Sb U wr.heap.size (R.data.toList.set q c) ∧ R.size = (R.data.toList.set q c).length) := ⟨hsb2, hl2⟩
                    have lSbU := hsb2.lt
                    clear hsb2 hl2 hcv hkc hkf hxv hbW hWz HSb hbq hTz lSb
                    obtain ⟨T, hT⟩ : ∃ T, T = tk0 ⟨(R.data.toList.set q c).toArray⟩ := ⟨_, rfl⟩
                    rw [← hT] at HT HRT
                    obtain ⟨t1, k1, e1⟩ := T
                    simp only at HT HRT
                    clear hT
                    generalize hsc : (⟨(R.data.toList.set q c).toArray⟩ : ByteArray) = sc at HT HRT hst0
                    have HSc : Hid ((⟨(R.data.toList.set q c).toArray⟩ : ByteArray) = sc) := hsc
                    clear hsc
                    go_wp2_with fail
                    refine (HT.out _).mono ?_
                    rintro e w2 ⟨⟨x0, x1, x2, rfl, hrd2⟩, hb2⟩
                    have hb2a := hb2.alloc hb2.size (.cells #[.bool t1.list, .string t1.text, .slice x0 x1 x2] 26)
                    have bX2 := Bk.new w2 #[.bool t1.list, .string t1.text, .slice x0 x1 x2] 26
                    have hrd2 := hrd2.rd.alloc (.cells #[.bool t1.list, .string t1.text, .slice x0 x1 x2] 26)
                    obtain ⟨V, hV⟩ : ∃ V, V = w2.alloc (.cells #[.bool t1.list, .string t1.text, .slice x0 x1 x2] 26) := ⟨_, rfl⟩
                    obtain ⟨X2, hX2⟩ : ∃ X2, X2 = w2.heap.size := ⟨_, rfl⟩
                    have HV : Hid (V = w2.alloc (.cells #[.bool t1.list, .string t1.text, .slice x0 x1 x2] 26) ∧ X2 = w2.heap.size) := ⟨hV, hX2⟩
                    rw [← hV] at hb2a hrd2 bX2
                    rw [← hX2] at bX2
                    have hst1 := (HSb2.out.1.below hb2a lSbU).string R.size bc HSb2.out.2
                    rw [HSc.out] at hst1
                    have H2 : Hid (Rd V 18 t1.items (.slice x0 x1 x2) ∧ Below w.heap.size w V ∧ Bk V X2 #[.bool t1.list, .string t1.text, .slice x0 x1 x2] 26) := ⟨hrd2, hB2.trans (hb2a.mono hB2.size), bX2⟩
                    clear hV hX2 hb2 hb2a hrd2 bX2 hB2 HT hst0 HSb2 HSc
                    go_upto_region 25 with fail
                    rw [← HV.out.1, ← HV.out.2]
                    clear HV
                    go_wp2_with fail
                    refine (HRT.out _).mono ?_
                    rintro e w3 ⟨⟨y0, y1, y2, rfl, hrd3⟩, hb3⟩
                    have hb3a := hb3.alloc hb3.size (.cells #[.bool t1.list, .string t1.text, .slice y0 y1 y2] 26)
                    have bY2 := Bk.new w3 #[.bool t1.list, .string t1.text, .slice y0 y1 y2] 26
                    have hrd3 := hrd3.rd.alloc (.cells #[.bool t1.list, .string t1.text, .slice y0 y1 y2] 26)
                    obtain ⟨V3, hV⟩ : ∃ V3, V3 = w3.alloc (.cells #[.bool t1.list, .string t1.text, .slice y0 y1 y2] 26) := ⟨_, rfl⟩
                    obtain ⟨Y2, hY2⟩ : ∃ Y2, Y2 = w3.heap.size := ⟨_, rfl⟩
                    have HV : Hid (V3 = w3.alloc (.cells #[.bool t1.list, .string t1.text, .slice y0 y1 y2] 26) ∧ Y2 = w3.heap.size) := ⟨hV, hY2⟩
                    rw [← hV] at hb3a hrd3 bY2
                    rw [← hY2] at bY2
                    have bX3 := H2.out.2.2.below hb3a H2.out.2.2.lt
                    have HEq : Hid (Calls Try.prog 15 #[.agg #[.bool t1.list, .string t1.text, .slice x0 x1 x2], .agg #[.bool t1.list, .string t1.text, .slice y0 y1 y2]] V3 fun e w' => e = .returned (.bool true) ∧ Below V3.heap.size V3 w') := eqSame 18 18 t1 x0 y0 x1 x2 y1 y2 V3 (H2.out.1.below hb3a) hrd3
                    have HB3 : Hid (Below w.heap.size w V3) := H2.out.2.1.trans (hb3a.mono H2.out.2.1.size)
                    obtain ⟨p0, p1, p2⟩ := box_cells bX3
                    obtain ⟨q0, q1, q2⟩ := box_cells bY2
                    have lX3 := bX3.lt
                    have lY3 := bY2.lt
                    clear hV hY2 hb3 hb3a hrd3 bY2 bX3 H2 HRT hst1
                    go_upto_region 26 with fail
                    rw [← HV.out.1, ← HV.out.2]
                    clear HV
                    go_wp2_with (first | (go_at_call 14; refine (num4 _ _).mono ?_; rintro e w7 ⟨rfl, rfl⟩) | (go_at_call 15; refine (HEq.out).mono ?_; rintro e w8 ⟨rfl, hb8⟩) | fail)
                    go_roundw
                    case rel => exact ⟨q + 1, by omega, by omega, by go_num, HB3.out.trans (hb8.mono HB3.out.size)⟩
                    case measure => simp [intOf]; omega
                  · have hq2' : ¬ (q : Int) < 12 := by omega
                    go_wp2_with fail
                    go_roundw
                    case rel => exact ⟨k + 1, by omega, by omega, by go_num, hbq⟩
                    case measure => simp [intOf]; omega
                · have hqR' : ¬ (q : Int) < (R.size : Int) := by omega
                  go_wp2_with fail
                  go_roundw
                  case rel => exact ⟨k + 1, by omega, by omega, by go_num, hbq⟩
                  case measure => simp [intOf]; omega
            · go_wp2_with (first | (go_at_call 14; refine (num4 _ _).mono ?_; rintro e w7 ⟨rfl, rfl⟩) | fail)
              go_roundw
              case rel => exact ⟨k + 1, by omega, by omega, by go_num, HR3.out.2.1⟩
              case measure => simp [intOf]; omega
      · have h6' : ¬ (k : Int) < 6 := by omega
        go_wp2_with (go_at_call 18; refine (wakes _).mono ?_; rintro e w1 ⟨rfl, hb1⟩)
        go_ret
        exact ⟨rfl, hbo.trans (hb1.mono hszo)⟩
    · have hlt' : ¬ (k : Int) < (qs.length : Int) := by omega
      go_wp2_with (go_at_call 18; refine (wakes _).mono ?_; rintro e w1 ⟨rfl, hb1⟩)
      go_ret
      exact ⟨rfl, hbo.trans (hb1.mono hszo)⟩
end Go.Proofs.Ytliaegnhnnnojaa
