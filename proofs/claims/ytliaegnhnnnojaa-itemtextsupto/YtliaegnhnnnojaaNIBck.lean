import Derived.Test.YtliaegnhnnnojaaAsk4
import Derived.Test.YtliaegnhnnnojaaHvyU
import Derived.Test.YtliaegnhnnnojaaTkP
import Derived.Test.YtliaegnhnnnojaaRtB
import Derived.Test.YtliaegnhnnnojaaRtC
import Derived.Deep.RegionHeld3
set_option linter.unusedSimpArgs false
set_option linter.unusedVariables false
namespace Go.Proofs.Ytliaegnhnnnojaa
open Go.RowKit

/-! tarnlaw4.ItemBack, walked. -/
theorem data_len4 (s : ByteArray) : s.data.toList.length = s.size := by simp
theorem st_app (l : List UInt8) (S : ByteArray) : st l ++ S = st (l ++ S.data.toList) := by
  apply ByteArray.ext
  simp [st, ByteArray.data_append]
theorem st_cut (l : List UInt8) (j : Nat) : (st l).extract 0 j = st (l.take j) := by
  apply ByteArray.ext
  simp [st]
theorem ext_cut (S : ByteArray) (j : Nat) : S.extract 0 j = st (S.data.toList.take j) := by
  rw [← st_of (S.extract 0 j), ext_list, List.drop_zero]
theorem tk0_back (S : ByteArray) (h : (tk0 S).2.2 = 0) : ItOk (tk0 S).1 ∧ itS (tk0 S).1 = S.extract 0 (tk0 S).2.1 ∧ (tk0 S).2.1 ≤ S.size := by
  obtain ⟨h1, h2, h3, h4⟩ := tk_back 16 S h
  have hok : ItOk (tk 16 S).1 := ⟨h2, by rw [h1, List.length_take]; omega⟩
  refine ⟨hok, ?_, h3⟩
  show itS (tk 16 S).1 = _
  rw [itS, if_pos hok, h1, ext_cut]
  rfl
mutual
theorem wt_raw : ∀ (a : IT), a.pd ≤ 16 → a.wt ≤ 2 * a.raw.length
  | .mk l t xs, h => by
    cases l with
    | true =>
      have ht : t.size = 0 := by
        by_cases e : t.size = 0
        · exact e
        · simp [IT.pd, e] at h
      have hp : IT.pds xs ≤ 16 := by simp [IT.pd, ht] at h; omega
      have ih := wts_raws xs hp
      have := hd_pos 192 (IT.raws xs).length
      simp only [IT.wt, IT.raw, if_true, List.length_append]
      omega
    | false =>
      have hx : xs = [] := by
        cases xs with
        | nil => rfl
        | cons x xs => simp [IT.pd] at h
      subst hx
      have hl : t.data.toList.length = t.size := data_len4 t
      simp only [IT.wt, IT.wts, IT.raw, Bool.false_eq_true, if_false, traw]
      split
      · rename_i hb
        simp only [bare, Bool.and_eq_true, beq_iff_eq] at hb
        omega
      · have := hd_pos 128 t.data.toList.length
        rw [List.length_append]
        omega
theorem wts_raws : ∀ (xs : List IT), IT.pds xs ≤ 16 → IT.wts xs ≤ 2 * (IT.raws xs).length
  | [], _ => by simp [IT.wts]
  | x :: xs, h => by
    have h1 : x.pd ≤ 16 := Nat.le_trans (pds_mem List.mem_cons_self) h
    have h2 : IT.pds xs ≤ 16 := by simp only [IT.pds] at h; omega
    have i1 := wt_raw x h1
    have i2 := wts_raws xs h2
    simp only [IT.wts, IT.raws, List.length_append]
    omega
end
set_option maxRecDepth 100000 in
set_option maxHeartbeats 4000000 in
theorem itemBack_walk (n : Nat) (v : Value) (qs : List Q4) (w : World) (hq : Sq w n v qs) (hs : Small qs) :
    Calls Try.prog 4 #[v] w fun e w' => e = .returned (.bool true) ∧ Below w.heap.size w w' := by
  obtain ⟨hlen, ad, cap, rfl, hat⟩ := hq
  have HA : Hid (∀ i (hi : i < qs.length), ∃ b off, ad = some ⟨b, off, none⟩ ∧ ∃ a l c, w.cell? ⟨b, off + i * 4, none⟩ = some (.bool qs[i].it.list) ∧ w.cell? ⟨b, off + i * 4 + 1, none⟩ = some (.string qs[i].it.text) ∧ w.cell? ⟨b, off + i * 4 + 2, none⟩ = some (.slice a l c) ∧ w.cell? ⟨b, off + i * 4 + 3, none⟩ = some (.string qs[i].s) ∧ Rd w n qs[i].it.items (.slice a l c)) := hat
  have HS : Hid (∀ i (hi : i < qs.length), qs[i].it.wt ≤ 1048576) := fun i hi => (hs qs[i] (List.getElem_mem hi)).1
  clear hat hs
  go_enter Try.func4, Try.ntmps4
  go_wp2_with fail
  go_loopw [3] (fun i wr => ∃ k : Nat, k ≤ qs.length ∧ k ≤ 6 ∧ i = .int .i64 k ∧ Below w.heap.size w wr) (fun i _ => qs.length - (intOf i).toNat)
  case atStart => exact ⟨0, by omega, by omega, rfl, Below.refl _ _⟩
  case round =>
    obtain ⟨k, hk, hk6, rfl, hbo⟩ := hrel
    have hszo := hbo.size
    by_cases hlt : k < qs.length
    · have hlt' : (k : Int) < (qs.length : Int) := by omega
      by_cases h6 : k < 6
      · have h6' : (k : Int) < 6 := by omega
        obtain ⟨b, off, rfl, s0, s1, s2, c0, c1, c2, c3, hrd⟩ := HA.out k hlt
        have hbW0 : b < w.heap.size := cell_lt' c0
        have c0 := (hbo.cell (cell_lt' c0)).trans c0
        have c1 := (hbo.cell (cell_lt' c1)).trans c1
        have c2 := (hbo.cell (cell_lt' c2)).trans c2
        have c3 := (hbo.cell (cell_lt' c3)).trans c3
        have hrd := hrd.below hbo
        have hwt := HS.out k hlt
        generalize qs[k].it = a at *
        generalize qs[k].s = S at *
        have HRd : Hid (Rd wr n a.items (.slice s0 s1 s2)) := hrd
        clear hrd
        go_wp2_with fail
        refine (heavyU n a s0 s1 s2 S _ HRd.out).mono ?_
        rintro e w1 ⟨⟨hv, rfl, hhv⟩, hb1⟩
        cases hv with
        | true =>
          go_wp2_with fail
          go_ret
          exact ⟨rfl, hbo.trans (hb1.mono hszo)⟩
        | false =>
          have c0 := (hb1.cell (cell_lt' c0)).trans c0
          have c1 := (hb1.cell (cell_lt' c1)).trans c1
          have c2 := (hb1.cell (cell_lt' c2)).trans c2
          have c3 := (hb1.cell (cell_lt' c3)).trans c3
          have hbw : b < w1.heap.size := cell_lt' c3
          have hsz : S.size ≤ 70000 := hhv rfl
          have H1 : Hid (Rd w1 n a.items (.slice s0 s1 s2) ∧ Below w.heap.size w w1) := ⟨HRd.out.below hb1, hbo.trans (hb1.mono hszo)⟩
          clear hhv hb1 HRd
          have HT : Hid (∀ s W, s.size ≤ 1099511627776 → Calls Try.prog 12 #[.string s] W fun e w' => (∃ ad l c, e = .returned (.tuple #[.agg #[.bool (tk0 s).1.list, .string (tk0 s).1.text, .slice ad l c], .int .i64 ((tk0 s).2.1 : Int), .int .i64 ((tk0 s).2.2 : Int)]) ∧ RdP w' (W.heap.size ≤ ·) 18 (tk0 s).1.items (.slice ad l c)) ∧ Below W.heap.size W w') := fun s W h => iTake s W h
          have HBy : Hid (Calls Try.prog 19 #[.agg #[.bool a.list, .string a.text, .slice s0 s1 s2]] w1 fun e w' => e = .returned (.tuple #[.string (itS a), .int .i64 (ckE a)]) ∧ Below w1.heap.size w1 w') := bytes' n a s0 s1 s2 w1 H1.out.1 (by omega)
          go_wp2_with fail
          refine HBy.out.mono ?_
          rintro e w2 ⟨rfl, hb2⟩
          have c0 := (hb2.cell (cell_lt' c0)).trans c0
          have c1 := (hb2.cell (cell_lt' c1)).trans c1
          have c2 := (hb2.cell (cell_lt' c2)).trans c2
          have c3 := (hb2.cell (cell_lt' c3)).trans c3
          have hbw2 : b < w2.heap.size := cell_lt' c3
          have H2 : Hid (Rd w2 n a.items (.slice s0 s1 s2) ∧ Below w.heap.size w w2) := ⟨H1.out.1.below hb2, H1.out.2.trans (hb2.mono H1.out.2.size)⟩
          clear hb2 H1 HBy
          have hvar : (ItOk a ∧ itS a = st a.raw ∧ ckE a = 0) ∨ (¬ ItOk a ∧ ckE a = 1) := by
            by_cases hok : ItOk a
            · exact .inl ⟨hok, if_pos hok, if_pos hok⟩
            · exact .inr ⟨hok, if_neg hok⟩
          generalize itS a = R at *
          generalize ckE a = ek at *
          have HVar : Hid ((ItOk a ∧ R = st a.raw ∧ ek = 0) ∨ (¬ ItOk a ∧ ek = 1)) := hvar
          clear hvar
          go_upto_if 44 with (first | (go_at_call 14; refine (num4 _ _).mono ?_; rintro e w5 ⟨rfl, rfl⟩) | fail)
          go_cut [4] (fun _ wx => Below w5.heap.size w5 wx)
          case first =>
            rcases HVar.out with ⟨hok, hR, rfl⟩ | ⟨hok, rfl⟩
            · clear HVar
              have hz0 : (st a.raw).size = a.raw.length := st_size _
              have htk : tk0 (st a.raw ++ S) = (a, a.raw.length, 0) := by rw [st_app]; exact tk_raw 16 (Nat.le_refl _) a _ hok.1 hok.2
              have hcut : Hid (∀ j, j < a.raw.length → tk0 ((st a.raw).extract 0 j) = (zIT, 0, 7)) := fun j hj => by rw [st_cut]; exact tk_cut 16 a j hok.2 hj
              have hrl := hok.2
              have HT1 := HT.out (st a.raw ++ S)
              rw [htk] at HT1
              have hz1 : (st a.raw ++ S).size ≤ 1099511627776 := by rw [ByteArray.size_append, hz0]; omega
              have HT2 : Hid (∀ W, Calls Try.prog 12 #[.string (st a.raw ++ S)] W fun e w' => (∃ ad l c, e = .returned (.tuple #[.agg #[.bool a.list, .string a.text, .slice ad l c], .int .i64 (a.raw.length : Int), .int .i64 0]) ∧ RdP w' (W.heap.size ≤ ·) 18 a.items (.slice ad l c)) ∧ Below W.heap.size W w') := fun W => HT1 W hz1
              clear hok htk HT1
              rw [← hR] at hcut HT2 hz0 hz1
              have hRz : (R.size : Int) = (a.raw.length : Int) := by omega
              clear hR
              go_wp2_with fail
              refine (HT2.out _).mono ?_
              rintro e w3 ⟨⟨x0, x1, x2, rfl, hrd3⟩, hb3⟩
              have hb3a := hb3.alloc hb3.size (.cells #[.bool a.list, .string a.text, .slice x0 x1 x2] 26)
              have c0 := (hb3a.cell (cell_lt' c0)).trans c0
              have c1 := (hb3a.cell (cell_lt' c1)).trans c1
              have c2 := (hb3a.cell (cell_lt' c2)).trans c2
              have c3 := (hb3a.cell (cell_lt' c3)).trans c3
              have bX := Bk.new w3 #[.bool a.list, .string a.text, .slice x0 x1 x2] 26
              have hrd3 := hrd3.rd.alloc (.cells #[.bool a.list, .string a.text, .slice x0 x1 x2] 26)
              obtain ⟨W, hW⟩ : ∃ W, W = w3.alloc (.cells #[.bool a.list, .string a.text, .slice x0 x1 x2] 26) := ⟨_, rfl⟩
              obtain ⟨X, hX⟩ : ∃ X, X = w3.heap.size := ⟨_, rfl⟩
              have HW : Hid (W = w3.alloc (.cells #[.bool a.list, .string a.text, .slice x0 x1 x2] 26) ∧ X = w3.heap.size) := ⟨hW, hX⟩
              rw [← hW] at c0 c1 c2 c3 hrd3 hb3a bX
              rw [← hX] at bX
              have H3 : Hid (Rd W 18 a.items (.slice x0 x1 x2) ∧ Rd W n a.items (.slice s0 s1 s2) ∧ Below w.heap.size w W ∧ Below w5.heap.size w5 W) := ⟨hrd3, H2.out.1.below hb3a, H2.out.2.trans (hb3a.mono H2.out.2.size), hb3a⟩
              obtain ⟨p0, p1, p2⟩ := box_cells bX
              clear hW hX hrd3 hb3 hb3a bX H2 HT2
              go_upto_region 9 with fail
              rw [← HW.out.1, ← HW.out.2]
              clear HW
              have HEq : Hid (∀ W', Below W.heap.size W W' → Calls Try.prog 15 #[.agg #[.bool a.list, .string a.text, .slice x0 x1 x2], .agg #[.bool a.list, .string a.text, .slice s0 s1 s2]] W' fun e w' => e = .returned (.bool true) ∧ Below W'.heap.size W' w') := fun W' h => eqSame 18 n a x0 s0 x1 x2 s1 s2 W' (H3.out.1.below h) (H3.out.2.1.below h)
              have hT : J2 X b (off + k * 4) a.list a.list a.text a.text (.slice x0 x1 x2) (.slice s0 s1 s2) W W := ⟨p0, p1, p2, c0, c1, c2, Below.refl _ _⟩
              go_cut [75] (fun c wx => c = .bool false ∧ Below W.heap.size W wx)
              case first =>
                generalize a.list = la at *
                generalize a.text = ta at *
                go_region_held3 (fun w' => w'.cell? ⟨X, 0, none⟩ = some (.bool la) ∧ w'.cell? ⟨X, 1, none⟩ = some (.string ta) ∧ w'.cell? ⟨X, 2, none⟩ = some (.slice x0 x1 x2) ∧ w'.cell? ⟨b, off + k * 4, none⟩ = some (.bool la) ∧ w'.cell? ⟨b, off + k * 4 + 1, none⟩ = some (.string ta) ∧ w'.cell? ⟨b, off + k * 4 + 2, none⟩ = some (.slice s0 s1 s2) ∧ Below W.heap.size W w') ((show J2 X b (off + k * 4) la la ta ta (.slice x0 x1 x2) (.slice s0 s1 s2) W _; repeat (first | with_reducible exact hT | with_reducible refine J2.drew ?_))) ((first | (go_at_call 14; refine (num4 _ _).mono ?_; rintro e w2 ⟨rfl, rfl⟩) | (go_at_call 15; refine (HEq.out _ (by repeat (first | with_reducible exact hT.bel | with_reducible refine Below.drew ?_))).mono ?_; rintro e w2 ⟨rfl, hb2⟩; have hT := J2.below (X := X) (b := b) (o := off + k * 4) (l := la) (m := la) (t := ta) (u := ta) (sv := .slice x0 x1 x2) (sw := .slice s0 s1 s2) (w0 := W) (by repeat (first | with_reducible exact hT | with_reducible refine J2.drew ?_)) hb2)))
                all_goals
                  go_wp2_with fail
                  go_meet
                  exact ⟨rfl, hT.bel⟩
              case rest =>
                obtain ⟨rfl, hbz⟩ := hcut
                have HB5 : Hid (Below w5.heap.size w5 wc) := H3.out.2.2.2.trans (hbz.mono H3.out.2.2.2.size)
                clear hT HEq H3 hbz p0 p1 p2 c0 c1 c2 c3
                have HT7 : Hid (∀ m, m < R.size → ∀ W, Calls Try.prog 12 #[.string (R.extract 0 m)] W fun e w' => (∃ ad l c, e = .returned (.tuple #[.agg #[.bool false, .string ⟨#[]⟩, .slice ad l c], .int .i64 0, .int .i64 7])) ∧ Below W.heap.size W w') := fun m hm W => by
                  have h1 := HT.out (R.extract 0 m) W (by rw [ByteArray.size_extract]; omega)
                  rw [hcut.out m (by omega)] at h1
                  exact h1.mono fun e w' h => ⟨by obtain ⟨x, y, z, h, _⟩ := h.1; exact ⟨x, y, z, h⟩, h.2⟩
                clear HT hcut
                have hR6 : R.size ≤ 65536 := by omega
                clear hrl hz0 hz1 hRz
                generalize a.raw.length = al at *
                go_wp2_with fail
                go_loopw [9] (fun j wx => ∃ m : Nat, m ≤ R.size + R.size / 40 + 1 ∧ j = .int .i64 m ∧ Below w5.heap.size w5 wx) (fun j _ => R.size + R.size / 40 + 1 - (intOf j).toNat)
                case atStart => exact ⟨0, by omega, rfl, HB5.out⟩
                case round =>
                  obtain ⟨m, hm, rfl, hbm⟩ := hrel
                  have hszm := hbm.size
                  by_cases hmR : m < R.size
                  · have hmR' : (m : Int) < (R.size : Int) := by omega
                    go_wp2_with fail
                    refine (HT7.out m hmR _).mono ?_
                    rintro e w6 ⟨⟨z0, z1, z2, rfl⟩, hb6⟩
                    have hb6a := hb6.alloc hb6.size (.cells #[.bool false, .string ⟨#[]⟩, .slice z0 z1 z2] 26)
                    have hB6 := hbm.trans (hb6a.mono hszm)
                    clear hb6 hb6a
                    go_wp2_with (first | (go_at_call 14; refine (num4 _ _).mono ?_; rintro e w7 ⟨rfl, rfl⟩) | fail)
                    go_roundw
                    case rel => exact ⟨m + 1 + R.size / 40, by omega, by go_num, hB6⟩
                    case measure => simp [intOf]; omega
                  · have hmR' : ¬ (m : Int) < (R.size : Int) := by omega
                    go_wp2_with fail
                    go_meet
                    exact hbm
            · go_wp2_with fail
              go_meet
              exact Below.refl _ _
          case rest =>
            have c3 := (hcut.cell (cell_lt' c3)).trans c3
            have HB : Hid (Below w.heap.size w wc) := H2.out.2.trans (hcut.mono H2.out.2.size)
            clear hcut c0 c1 c2 H2 HVar hwt
            have HTS := HT.out S wc (by omega)
            have HBk : Hid ((tk0 S).2.2 = 0 → ItOk (tk0 S).1 ∧ itS (tk0 S).1 = S.extract 0 (tk0 S).2.1 ∧ (tk0 S).2.1 ≤ S.size) := tk0_back S
            obtain ⟨T, hT⟩ : ∃ T, T = tk0 S := ⟨_, rfl⟩
            rw [← hT] at HTS HBk
            obtain ⟨t1, k1, e1⟩ := T
            have HTS : Hid (Calls Try.prog 12 #[.string S] wc fun e w' => (∃ ad l c, e = .returned (.tuple #[.agg #[.bool t1.list, .string t1.text, .slice ad l c], .int .i64 (k1 : Int), .int .i64 (e1 : Int)]) ∧ RdP w' (wc.heap.size ≤ ·) 18 t1.items (.slice ad l c)) ∧ Below wc.heap.size wc w') := HTS
            clear hT HT
            go_wp2_with fail
            refine HTS.out.mono ?_
            rintro e w3 ⟨⟨x0, x1, x2, rfl, hrd3⟩, hb3⟩
            have hb3a := hb3.alloc hb3.size (.cells #[.bool t1.list, .string t1.text, .slice x0 x1 x2] 26)
            have c3 := (hb3a.cell (cell_lt' c3)).trans c3
            have bX := Bk.new w3 #[.bool t1.list, .string t1.text, .slice x0 x1 x2] 26
            have hrd3 := hrd3.rd.alloc (.cells #[.bool t1.list, .string t1.text, .slice x0 x1 x2] 26)
            obtain ⟨W, hW⟩ : ∃ W, W = w3.alloc (.cells #[.bool t1.list, .string t1.text, .slice x0 x1 x2] 26) := ⟨_, rfl⟩
            obtain ⟨X, hX⟩ : ∃ X, X = w3.heap.size := ⟨_, rfl⟩
            have HW : Hid (W = w3.alloc (.cells #[.bool t1.list, .string t1.text, .slice x0 x1 x2] 26) ∧ X = w3.heap.size) := ⟨hW, hX⟩
            rw [← hW] at c3 hrd3 hb3a bX
            rw [← hX] at bX
            have H3 : Hid (Rd W 18 t1.items (.slice x0 x1 x2) ∧ Below w.heap.size w W) := ⟨hrd3, HB.out.trans (hb3a.mono HB.out.size)⟩
            obtain ⟨p0, p1, p2⟩ := box_cells bX
            have hXW := bX.lt
            clear hW hX hrd3 hb3 hb3a bX HB HTS
            go_upto_region 18 with fail
            rw [← HW.out.1, ← HW.out.2]
            clear HW
            by_cases he : e1 = 0
            · subst he
              obtain ⟨hok, hitS, hk1⟩ := HBk.out rfl
              have hok : ItOk t1 := hok
              have hitS : itS t1 = S.extract 0 k1 := hitS
              have hk1 : k1 ≤ S.size := hk1
              have hwt1 := wt_raw t1 hok.1
              have hrl1 := hok.2
              have hBy := bytes' 18 t1 x0 x1 x2 W H3.out.1 (by omega)
              rw [hitS, show ckE t1 = 0 from if_pos hok] at hBy
              have HBy : Hid (Calls Try.prog 19 #[.agg #[.bool t1.list, .string t1.text, .slice x0 x1 x2]] W fun e w' => e = .returned (.tuple #[.string (S.extract 0 k1), .int .i64 0]) ∧ Below W.heap.size W w') := hBy
              clear hBy hwt1 hrl1 hok hitS HBk
              go_wp2_with (first | (go_at_call 14; refine (num4 _ _).mono ?_; rintro e w7 ⟨rfl, rfl⟩) | fail)
              refine HBy.out.mono ?_
              rintro e w8 ⟨rfl, hb8⟩
              have c3 := (hb8.cell (cell_lt' c3)).trans c3
              have hB8 := H3.out.2.trans (hb8.mono H3.out.2.size)
              have hb8w : b < w8.heap.size := cell_lt' c3
              have hk1' : ¬ (S.size : Int) < (k1 : Int) := by omega
              clear hb8 p0 p1 p2 HBy H3
              go_wp2_with (first | (go_at_call 14; refine (num4 _ _).mono ?_; rintro e w7 ⟨rfl, rfl⟩) | fail)
              go_roundw
              case rel => exact ⟨k + 1, by omega, by omega, by go_num, hB8⟩
              case measure => simp [intOf]; omega
            · have he' : ((e1 : Int) == 0) = false := by rw [beq_eq_false_iff_ne]; omega
              go_wp2_with (first | (go_at_call 14; refine (num4 _ _).mono ?_; rintro e w7 ⟨rfl, rfl⟩) | fail)
              go_roundw
              case rel => exact ⟨k + 1, by omega, by omega, by go_num, H3.out.2⟩
              case measure => simp [intOf]; omega
      · have h6' : ¬ (k : Int) < 6 := by omega
        go_wp2_with (go_at_call 18; refine (wakes _).mono ?_; rintro e w1 ⟨rfl, hb1⟩)
        go_ret
        exact ⟨rfl, hbo.trans (hb1.mono hszo)⟩
    · have hlt' : ¬ (k : Int) < (qs.length : Int) := by omega
      go_wp2_with (go_at_call 18; refine (wakes _).mono ?_; rintro e w1 ⟨rfl, hb1⟩)
      go_ret
      exact ⟨rfl, hbo.trans (hb1.mono hszo)⟩
end Go.Proofs.Ytliaegnhnnnojaa
