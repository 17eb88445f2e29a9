import Derived.Test.YtljfenjpnanoiaaPCmp0
set_option linter.unusedSimpArgs false
set_option linter.unusedVariables false
namespace Go.Proofs.Ytljfenjpnanoiaa
open Go.RowKit

/-- Three numbers in blocks of their own, cell by cell, in a world that lies behind another one. -/
def T3b (b o B p X q a c d : Nat) (w0 w' : World) : Prop := w'.cell? ⟨b, o, none⟩ = some (.int .u64 (lb a 0)) ∧ w'.cell? ⟨b, o + 1, none⟩ = some (.int .u64 (lb a 1)) ∧ w'.cell? ⟨b, o + 2, none⟩ = some (.int .u64 (lb a 2)) ∧ w'.cell? ⟨b, o + 3, none⟩ = some (.int .u64 (lb a 3)) ∧ w'.cell? ⟨B, p, none⟩ = some (.int .u64 (lb c 0)) ∧ w'.cell? ⟨B, p + 1, none⟩ = some (.int .u64 (lb c 1)) ∧ w'.cell? ⟨B, p + 2, none⟩ = some (.int .u64 (lb c 2)) ∧ w'.cell? ⟨B, p + 3, none⟩ = some (.int .u64 (lb c 3)) ∧ w'.cell? ⟨X, q, none⟩ = some (.int .u64 (lb d 0)) ∧ w'.cell? ⟨X, q + 1, none⟩ = some (.int .u64 (lb d 1)) ∧ w'.cell? ⟨X, q + 2, none⟩ = some (.int .u64 (lb d 2)) ∧ w'.cell? ⟨X, q + 3, none⟩ = some (.int .u64 (lb d 3)) ∧ Below w0.heap.size w0 w'
theorem T3b.below {b o B p X q a c d : Nat} {w0 w w' : World} (h : T3b b o B p X q a c d w0 w) (hb : Below w.heap.size w w') : T3b b o B p X q a c d w0 w' := by
  obtain ⟨h0, h1, h2, h3, h4, h5, h6, h7, h8, h9, h10, h11, hB⟩ := h
  exact ⟨below_at hb (cell_lt h0) h0, below_at hb (cell_lt h1) h1, below_at hb (cell_lt h2) h2, below_at hb (cell_lt h3) h3, below_at hb (cell_lt h4) h4, below_at hb (cell_lt h5) h5, below_at hb (cell_lt h6) h6, below_at hb (cell_lt h7) h7, below_at hb (cell_lt h8) h8, below_at hb (cell_lt h9) h9, below_at hb (cell_lt h10) h10, below_at hb (cell_lt h11) h11, hB.trans (hb.mono hB.size)⟩
theorem T3b.drew {b o B p X q a c d : Nat} {w0 w : World} (h : T3b b o B p X q a c d w0 w) : T3b b o B p X q a c d w0 w.drew := h.below ((Below.refl _ w).drew)
theorem T3b.bel {b o B p X q a c d : Nat} {w0 w : World} (h : T3b b o B p X q a c d w0 w) : Below w0.heap.size w0 w := h.2.2.2.2.2.2.2.2.2.2.2.2
end Go.Proofs.Ytljfenjpnanoiaa
