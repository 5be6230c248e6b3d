/- Digests that a statement works with: one, or two. -/
import Derived.Test.YtmgaegaibglnhaaGreatShaFin
namespace Go.Proofs.YtmgaegaibglnhaaGreat
open Go.RowKit
attribute [local irreducible] Sha.compress Sha.blocks Sha.sha Sha.pad

/-- A digest of the statement's own. -/
structure One (w0 w : World) (a : Nat) (t : List UInt8) : Prop where
  da : Dig w a t
  la : w0.heap.size ≤ a
  bl : Below w0.heap.size w0 w

/-- Two digests of the statement's own. -/
structure Two (w0 w : World) (a b : Nat) (t s : List UInt8) : Prop where
  da : Dig w a t
  db : Dig w b s
  ne : a ≠ b
  la : w0.heap.size ≤ a
  lb : w0.heap.size ≤ b
  bl : Below w0.heap.size w0 w

section
variable {w0 w w' : World} {a b : Nat} {t s : List UInt8}

theorem Dig.drew (h : Dig w a t) : Dig w.drew a t := by
  obtain ⟨x, r, h1, h2, h3⟩ := h
  exact ⟨x, r, h1, h2, h3.drew⟩

theorem One.drew (h : One w0 w a t) : One w0 w.drew a t := ⟨h.da.drew, h.la, h.bl.drew⟩
theorem Two.drew (h : Two w0 w a b t s) : Two w0 w.drew a b t s := ⟨h.da.drew, h.db.drew, h.ne, h.la, h.lb, h.bl.drew⟩
theorem One.up (hb : Below w.heap.size w w') (h : One w0 w a t) : One w0 w' a t := ⟨h.da.below hb h.da.lt, h.la, h.bl.trans (hb.mono h.bl.size)⟩
theorem Two.up (hb : Below w.heap.size w w') (h : Two w0 w a b t s) : Two w0 w' a b t s := ⟨h.da.below hb h.da.lt, h.db.below hb h.db.lt, h.ne, h.la, h.lb, h.bl.trans (hb.mono h.bl.size)⟩
theorem Two.swap (h : Two w0 w a b t s) : Two w0 w b a s t := ⟨h.db, h.da, h.ne.symm, h.lb, h.la, h.bl⟩
theorem Two.one (h : Two w0 w a b t s) : One w0 w a t := ⟨h.da, h.la, h.bl⟩
theorem Two.other (h : Two w0 w a b t s) : One w0 w b s := ⟨h.db, h.lb, h.bl⟩

theorem One.new (h : Below w0.heap.size w0 w) : Calls Tryz.prog 159 #[] w fun e w' => ∃ a, e = .returned (.pointer (some ⟨a, 0, none⟩)) ∧ One w0 w' a [] :=
  (new_any w).mono fun _ _ ⟨a, he, hl, hd, hb⟩ => ⟨a, he, hd, Nat.le_trans h.size hl, h.trans (hb.mono h.size)⟩

theorem One.new2 (h : One w0 w a t) : Calls Tryz.prog 159 #[] w fun e w' => ∃ b, e = .returned (.pointer (some ⟨b, 0, none⟩)) ∧ Two w0 w' a b t [] :=
  (new_any w).mono fun _ _ ⟨_, he, hl, hd, hb⟩ => ⟨_, he, h.da.below hb h.da.lt, hd, Nat.ne_of_lt (Nat.lt_of_lt_of_le h.da.lt hl), h.la, Nat.le_trans h.bl.size hl, h.bl.trans (hb.mono h.bl.size)⟩

theorem One.write (h : One w0 w a t) (x : ByteArray) (hn : t.length + x.size < 4611686018427387904) (T : List UInt8) (hT : t ++ x.data.toList = T) :
    Calls Tryz.prog 161 #[.pointer (some ⟨a, 0, none⟩), .string x] w fun e w' => e = .returned (.tuple #[]) ∧ One w0 w' a T := by
  subst hT
  refine (write_any a t x w h.da hn).mono fun _ _ ⟨he, hd, hg⟩ => ⟨he, hd, h.la, ?_⟩
  exact h.bl.grown hg h.bl.size (fun k e => by cases e; exact h.la)

theorem Two.write (h : Two w0 w a b t s) (x : ByteArray) (hn : t.length + x.size < 4611686018427387904) (T : List UInt8) (hT : t ++ x.data.toList = T) :
    Calls Tryz.prog 161 #[.pointer (some ⟨a, 0, none⟩), .string x] w fun e w' => e = .returned (.tuple #[]) ∧ Two w0 w' a b T s := by
  subst hT
  refine (write_any a t x w h.da hn).mono fun _ _ ⟨he, hd, hg⟩ => ⟨he, hd, h.db.grown hg (fun e => h.ne (Option.some.inj e).symm), h.ne, h.la, h.lb, ?_⟩
  exact h.bl.grown hg h.bl.size (fun k e => by cases e; exact h.la)

theorem Two.write2 (h : Two w0 w a b t s) (x : ByteArray) (hn : s.length + x.size < 4611686018427387904) (T : List UInt8) (hT : s ++ x.data.toList = T) :
    Calls Tryz.prog 161 #[.pointer (some ⟨b, 0, none⟩), .string x] w fun e w' => e = .returned (.tuple #[]) ∧ Two w0 w' a b t T :=
  (h.swap.write x hn T hT).mono fun _ _ ⟨he, h2⟩ => ⟨he, h2.swap⟩
end

end Go.Proofs.YtmgaegaibglnhaaGreat
