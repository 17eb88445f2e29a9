import Derived.Test.YtliaegnhnnnojaaBlk
import Derived.Deep.RegionWith
import Derived.Deep.DeepCutAuto
import Derived.Deep.CutBlock
import Derived.Deep.RegionHeld3
set_option linter.unusedSimpArgs false
set_option linter.unusedVariables false
namespace Go.Proofs.Ytliaegnhnnnojaa
open Go.RowKit

/-! Items, as trees; how a list of them lies in memory. -/
inductive IT where
  | mk (list : Bool) (text : ByteArray) (items : List IT)
def IT.list : IT → Bool | .mk l _ _ => l
def IT.text : IT → ByteArray | .mk _ t _ => t
def IT.items : IT → List IT | .mk _ _ s => s
theorem IT.eta (a : IT) : a = .mk a.list a.text a.items := by cases a; rfl
theorem IT.ext {a b : IT} (h1 : a.list = b.list) (h2 : a.text = b.text) (h3 : a.items = b.items) : a = b := by
  cases a; cases b; simp only [IT.list, IT.text, IT.items] at *; rw [h1, h2, h3]
/-- A slice of these items, read n lists deep at most. -/
def Rd (w : World) : Nat → List IT → Value → Prop
  | 0, _, _ => False
  | n + 1, xs, v => xs.length ≤ 9223372036854775807 ∧ ∃ ad cap, v = .slice ad xs.length cap ∧ ∀ i (hi : i < xs.length), ∃ b off, ad = some ⟨b, off, none⟩ ∧
      ∃ sv, w.cell? ⟨b, off + i * 3, none⟩ = some (.bool xs[i].list) ∧ w.cell? ⟨b, off + i * 3 + 1, none⟩ = some (.string xs[i].text) ∧ w.cell? ⟨b, off + i * 3 + 2, none⟩ = some sv ∧
      (∃ a l c, sv = .slice a l c) ∧ Rd w n xs[i].items sv
theorem cell_lt' {w : World} {a : Addr} {v : Value} (h : w.cell? a = some v) : a.block < w.heap.size := World.block_lt_of_cell? w a h
theorem Rd.below {w w' : World} (hb : Below w.heap.size w w') : ∀ {n : Nat} {xs : List IT} {v : Value}, Rd w n xs v → Rd w' n xs v
  | 0, _, _, h => h.elim
  | n + 1, xs, v, h => by
    obtain ⟨hl, ad, cap, hv, h⟩ := h
    refine ⟨hl, ad, cap, hv, fun i hi => ?_⟩
    obtain ⟨b, off, ha, sv, h0, h1, h2, hs, h3⟩ := h i hi
    exact ⟨b, off, ha, sv, (hb.cell (cell_lt' h0)).trans h0, (hb.cell (cell_lt' h1)).trans h1, (hb.cell (cell_lt' h2)).trans h2, hs, Rd.below hb h3⟩
theorem bytes_inj {a b : ByteArray} (h : a.toList = b.toList) : a = b := by
  rw [ByteArray.toList_eq, ByteArray.toList_eq] at h
  cases a; cases b
  congr 1
  exact Array.toList_inj.1 h
/-- An item as a value, its own items as this slice. -/
abbrev itv (a : IT) (sv : Value) : Value := .agg #[.bool a.list, .string a.text, sv]
def EqS (n : Nat) : Prop := ∀ (m : Nat) (xs ys : List IT) (va vb : Value) (w : World), Rd w n xs va → Rd w m ys vb →
  Calls Try.prog 20 #[va, vb] w fun e w' => (∃ b : Bool, e = .returned (.bool b) ∧ (b = true ↔ xs = ys)) ∧ Below w.heap.size w w'
theorem eqItem_parts (la lb : Bool) (ta tb : ByteArray) (a0 b0 : Option Addr) (a1 a2 b1 b2 : Nat) (w : World) (R : Prop)
    (HI : Hid (∀ W, Below w.heap.size w W → Calls Try.prog 20 #[.slice a0 a1 a2, .slice b0 b1 b2] W fun e w' => (∃ b : Bool, e = .returned (.bool b) ∧ (b = true ↔ R)) ∧ Below W.heap.size W w')) :
    Calls Try.prog 15 #[.agg #[.bool la, .string ta, .slice a0 a1 a2], .agg #[.bool lb, .string tb, .slice b0 b1 b2]] w fun e w' => (∃ c : Bool, e = .returned (.bool c) ∧ (c = true ↔ la = lb ∧ ta = tb ∧ R)) ∧ Below w.heap.size w w' := by
  by_cases h1 : la = lb
  · subst h1
    by_cases h2 : ta = tb
    · subst h2
      go_enter Try.func15, Try.ntmps15
      go_wp2_with (go_at_call 20; refine (HI.out _ (((Below.refl _ w).alloc (Nat.le_refl _) _).alloc (by simp) _)).mono ?_; rintro e w1 ⟨⟨b, rfl, hb⟩, hb1⟩)
      go_ret
      exact ⟨⟨b, rfl, by simpa using hb⟩, (((Below.refl _ w).alloc (Nat.le_refl _) _).alloc (by simp) _).trans (hb1.mono (by simp; omega))⟩
    · have hne : (ta.toList == tb.toList) = false := by rw [beq_eq_false_iff_ne]; exact fun h => h2 (bytes_inj h)
      have HN : Hid (¬ ta = tb) := h2
      go_enter Try.func15, Try.ntmps15
      go_wp2_with fail
      go_ret
      exact ⟨⟨false, rfl, by simp [HN.out]⟩, ((Below.refl _ w).alloc (Nat.le_refl _) _).alloc (by simp) _⟩
  · have hne : (la == lb) = false := by rw [beq_eq_false_iff_ne]; exact h1
    have HN : Hid (¬ la = lb) := h1
    go_enter Try.func15, Try.ntmps15
    go_wp2_with fail
    go_ret
    exact ⟨⟨false, rfl, by simp [HN.out]⟩, ((Below.refl _ w).alloc (Nat.le_refl _) _).alloc (by simp) _⟩
theorem eqItem {n : Nat} (IH : EqS n) (m : Nat) (a b : IT) (sa sb : Value) (w : World) (ha : Rd w n a.items sa) (hb : Rd w m b.items sb) (hsa : ∃ x l c, sa = .slice x l c) (hsb : ∃ x l c, sb = .slice x l c) :
    Calls Try.prog 15 #[itv a sa, itv b sb] w fun e w' => (∃ c : Bool, e = .returned (.bool c) ∧ (c = true ↔ a = b)) ∧ Below w.heap.size w w' := by
  obtain ⟨x, l, c, rfl⟩ := hsa
  obtain ⟨x', l', c', rfl⟩ := hsb
  refine (eqItem_parts a.list b.list a.text b.text x x' l c l' c' w (a.items = b.items) (fun W hW => IH m a.items b.items _ _ W (ha.below hW) (hb.below hW))).mono ?_
  rintro e w' ⟨⟨d, he, hd⟩, hB⟩
  refine ⟨⟨d, he, hd.trans ⟨fun h => IT.ext h.1 h.2.1 h.2.2, fun h => by subst h; exact ⟨rfl, rfl, rfl⟩⟩⟩, hB⟩
/-- Two items of two lists, cell by cell, in a world behind another one. -/
def I2 (b o B p : Nat) (l m : Bool) (t u : ByteArray) (sv sw : Value) (w0 w' : World) : Prop := w'.cell? ⟨b, o, none⟩ = some (.bool l) ∧ w'.cell? ⟨b, o + 1, none⟩ = some (.string t) ∧ w'.cell? ⟨b, o + 2, none⟩ = some (sv) ∧ w'.cell? ⟨B, p, none⟩ = some (.bool m) ∧ w'.cell? ⟨B, p + 1, none⟩ = some (.string u) ∧ w'.cell? ⟨B, p + 2, none⟩ = some (sw) ∧ Below w0.heap.size w0 w'
theorem I2.below {b o B p : Nat} {l m : Bool} {t u : ByteArray} {sv sw : Value} {w0 w w' : World} (h : I2 b o B p l m t u sv sw w0 w) (hb : Below w.heap.size w w') : I2 b o B p l m t u sv sw w0 w' := by
  obtain ⟨h0, h1, h2, h3, h4, h5, hB⟩ := h
  exact ⟨(hb.cell (cell_lt' h0)).trans h0, (hb.cell (cell_lt' h1)).trans h1, (hb.cell (cell_lt' h2)).trans h2, (hb.cell (cell_lt' h3)).trans h3, (hb.cell (cell_lt' h4)).trans h4, (hb.cell (cell_lt' h5)).trans h5, hB.trans (hb.mono hB.size)⟩
theorem I2.drew {b o B p : Nat} {l m : Bool} {t u : ByteArray} {sv sw : Value} {w0 w : World} (h : I2 b o B p l m t u sv sw w0 w) : I2 b o B p l m t u sv sw w0 w.drew := h.below ((Below.refl _ w).drew)
set_option maxRecDepth 100000 in
set_option maxHeartbeats 2000000 in
theorem eqItems : ∀ n, EqS n
  | 0 => fun m xs ys va vb w h _ => h.elim
  | n + 1 => fun m xs ys va vb w ha hb => by
    have IH := eqItems n
    obtain ⟨hl, ad, cap, rfl, hat⟩ := ha
    cases m with
    | zero => exact hb.elim
    | succ m =>
    obtain ⟨hl2, ad2, cap2, rfl, hat2⟩ := hb
    have HA : Hid (∀ i (hi : i < xs.length), ∃ b off, ad = some ⟨b, off, none⟩ ∧ ∃ sv, w.cell? ⟨b, off + i * 3, none⟩ = some (.bool xs[i].list) ∧ w.cell? ⟨b, off + i * 3 + 1, none⟩ = some (.string xs[i].text) ∧ w.cell? ⟨b, off + i * 3 + 2, none⟩ = some sv ∧ (∃ a l c, sv = .slice a l c) ∧ Rd w n xs[i].items sv) := hat
    have HB : Hid (∀ i (hi : i < ys.length), ∃ b off, ad2 = some ⟨b, off, none⟩ ∧ ∃ sv, w.cell? ⟨b, off + i * 3, none⟩ = some (.bool ys[i].list) ∧ w.cell? ⟨b, off + i * 3 + 1, none⟩ = some (.string ys[i].text) ∧ w.cell? ⟨b, off + i * 3 + 2, none⟩ = some sv ∧ (∃ a l c, sv = .slice a l c) ∧ Rd w m ys[i].items sv) := hat2
    have HI : Hid (EqS n) := IH
    clear hat hat2 IH
    by_cases hlen : xs.length = ys.length
    · have HLen : Hid (xs.length = ys.length) := hlen
      have hnl : ((xs.length : Int) != (ys.length : Int)) = false := by rw [bne_eq_false_iff_eq]; omega
      clear hlen
      go_enter Try.func20, Try.ntmps20
      go_wp2_with fail
      go_loopw [5] (fun i wr => ∃ k : Nat, k ≤ xs.length ∧ i = .int .i64 k ∧ Hid (∀ j (h1 : j < xs.length) (h2 : j < ys.length), j < k → xs[j] = ys[j]) ∧ Below w.heap.size w wr) (fun i _ => xs.length - (intOf i).toNat)
      case atStart => exact ⟨0, by omega, rfl, fun j _ _ h => absurd h (by omega), Below.refl _ _⟩
      case round =>
        obtain ⟨k, hk, rfl, hsame, hbo⟩ := hrel
        have hszo := hbo.size
        by_cases hlt : k < xs.length
        · have hlt2 : k < ys.length := by rw [← HLen.out]; exact hlt
          have hlt' : (k : Int) < (xs.length : Int) := by omega
          have hlt2' : (k : Int) < (ys.length : Int) := by omega
          obtain ⟨b, off, rfl, sv, c0, c1, c2, ⟨s0, s1, s2, rfl⟩, hr⟩ := HA.out k hlt
          obtain ⟨B, off2, rfl, sw, d0, d1, d2, ⟨t0, t1, t2, rfl⟩, hr2⟩ := HB.out k hlt2
          have c0 := (hbo.cell (cell_lt' c0)).trans c0
          have c1 := (hbo.cell (cell_lt' c1)).trans c1
          have c2 := (hbo.cell (cell_lt' c2)).trans c2
          have d0 := (hbo.cell (cell_lt' d0)).trans d0
          have d1 := (hbo.cell (cell_lt' d1)).trans d1
          have d2 := (hbo.cell (cell_lt' d2)).trans d2
          have HE : Hid (∀ W, Below wr.heap.size wr W → Calls Try.prog 15 #[.agg #[.bool xs[k].list, .string xs[k].text, .slice s0 s1 s2], .agg #[.bool ys[k].list, .string ys[k].text, .slice t0 t1 t2]] W fun e w' => (∃ c : Bool, e = .returned (.bool c) ∧ (c = true ↔ xs[k] = ys[k])) ∧ Below W.heap.size W w') := fun W hW => by
            have hb2 := hbo.trans (hW.mono hszo)
            exact eqItem HI.out m xs[k] ys[k] _ _ W (hr.below hb2) (hr2.below hb2) ⟨_, _, _, rfl⟩ ⟨_, _, _, rfl⟩
          obtain ⟨R, hR⟩ : ∃ R : Prop, R = (xs[k] = ys[k]) := ⟨_, rfl⟩
          have HR : Hid (R = (xs[k] = ys[k])) := hR
          rw [← hR] at HE
          clear hR hr hr2
          generalize xs[k].list = l at *
          generalize ys[k].list = l2 at *
          generalize xs[k].text = t at *
          generalize ys[k].text = u at *
          have hT : I2 b (off + k * 3) B (off2 + k * 3) l l2 t u (.slice s0 s1 s2) (.slice t0 t1 t2) wr wr := ⟨c0, c1, c2, d0, d1, d2, Below.refl _ _⟩
          go_upto_region 6 with fail
          go_cut [26] (fun c wx => ∃ r : Bool, c = .bool (!r) ∧ (r = true ↔ R) ∧ Below wr.heap.size wr wx)
          case first =>
            go_region_held3 (fun w' => w'.cell? ⟨b, off + k * 3, none⟩ = some (.bool l) ∧ w'.cell? ⟨b, off + k * 3 + 1, none⟩ = some (.string t) ∧ w'.cell? ⟨b, off + k * 3 + 2, none⟩ = some (.slice s0 s1 s2) ∧ w'.cell? ⟨B, off2 + k * 3, none⟩ = some (.bool l2) ∧ w'.cell? ⟨B, off2 + k * 3 + 1, none⟩ = some (.string u) ∧ w'.cell? ⟨B, off2 + k * 3 + 2, none⟩ = some (.slice t0 t1 t2) ∧ Below wr.heap.size wr w') ((show I2 b (off + k * 3) B (off2 + k * 3) l l2 t u (.slice s0 s1 s2) (.slice t0 t1 t2) wr _; repeat (first | with_reducible exact hT | with_reducible refine I2.drew ?_))) ((go_at_call 15; refine (HE.out _ ((Below.refl _ _).drew)).mono ?_; rintro e w2 ⟨⟨r, rfl, hr⟩, hb2⟩; have hT := I2.below (b := b) (o := off + k * 3) (B := B) (p := off2 + k * 3) (l := l) (m := l2) (t := t) (u := u) (sv := .slice s0 s1 s2) (sw := .slice t0 t1 t2) (w0 := wr) (by repeat (first | with_reducible exact hT | with_reducible refine I2.drew ?_)) hb2))
            all_goals
              go_wp2_with fail
              go_meet
              exact ⟨r, rfl, hr, hT.2.2.2.2.2.2⟩
          case rest =>
            obtain ⟨r, rfl, hr, hbx⟩ := hcut
            have hB := hbo.trans (hbx.mono hszo)
            clear c0 c1 c2 d0 d1 d2 hT HE
            cases r with
            | true =>
              have HSame : Hid (xs[k] = ys[k]) := by have := hr.1 rfl; rw [HR.out] at this; exact this
              clear hr
              go_wp2_with fail
              go_roundw
              case rel =>
                refine ⟨k + 1, by omega, by go_num, fun j h1 h2 hj => ?_, hB⟩
                by_cases e : j = k
                · subst e; exact HSame.out
                · exact hsame.out j h1 h2 (by omega)
              case measure => simp [intOf]; omega
            | false =>
              have HNe : Hid (¬ xs[k] = ys[k]) := fun h => by have := hr.2 (by rw [HR.out]; exact h); simp at this
              clear hr
              go_wp2_with fail
              go_ret
              refine ⟨⟨false, rfl, by simp; intro h; exact HNe.out (by subst h; rfl)⟩, hB⟩
        · have hlt' : decide ((k : Int) < (xs.length : Int)) = false := by simp; omega
          go_wp2_with fail
          go_ret
          exact ⟨⟨true, rfl, by simp; exact List.ext_getElem HLen.out (fun j h1 h2 => hsame.out j h1 h2 (by omega))⟩, hbo⟩
    · have HLen : Hid (¬ xs.length = ys.length) := hlen
      have hnl : ((xs.length : Int) != (ys.length : Int)) = true := by rw [bne_iff_ne]; omega
      clear hlen
      go_enter Try.func20, Try.ntmps20
      go_wp2_with fail
      go_ret
      exact ⟨⟨false, rfl, by simp; intro h; exact HLen.out (by rw [h])⟩, Below.refl _ _⟩
end Go.Proofs.Ytliaegnhnnnojaa
