/-
  No cell of these rows narrows 'for every input' (looked for: loops, veiled, ifaces, maps, wideKeys, modest, calm, conditions, laid).
  DERIVED. THE GIVEN ROWS OF THIS SEAT. 6 by the template 'for every input the law returns true; each argument reads behind the call as it read before'; 0 by the template 'total and deterministic' (their statements: YtmgaegaibglnhaaGreatTotals.lean).
  GIVEN WITH THE SEED: the statements are not yours to turn. If you find one false, say at which input.
  Laid BY PROGRAM, IN A SANDBOX (cutbox-rows.mjs): the forced cells as the released guide's own fill.sh prints them over the translation 7dea51893fdb2f15… (all of the seat's roots in one cut). By AI agents, Wed Nov 11 2026. No macro, syntax, notation, axiom, sorry.
-/
import Derived.Test.YtmgaegaibglnhaaGreatChecked
import GoSem.Claim
import GoSem.ClaimJoined
import GoSem.ClaimMapViews
import Derived.JoinedTies
import Derived.KernelRfl
namespace Go.Proofs.YtmgaegaibglnhaaGreat
/- THE CELL 'sum', in the pinned program and in every row, IS THE sha256 OF THE DUMP (.gsa) THAT YtmgaegaibglnhaaGreatProg.lean LOADS. Nothing in Lean hashes anything: it is a label: what it is worth is what the hold of that sum in a sandbox is worth. -/
noncomputable def Tryz.pinned : Pinned := { name := "ytmgaegaibglnhaagreat", sum := "7dea51893fdb2f15bbb41c34f94ee38c05138b9fe3a2595256c16ac19dd28cf4", checked := Tryz.checked }
namespace Rows
def none {H : Type} : Left H := { results := [], args := [] }

/-- 'almonrylaw8.JournalActs': WHATEVER THE INPUT: true; the input reads as it did. -/
def journalActsSpec : ChangeSpec := { name := "journalActs", fn := fun _ => fun
  | [d1, d2] => { results := [.lit (.bool true)], args := [d1, d2] }
  | _ => none }
def journalActsRow : OpenClaim := { program := "ytmgaegaibglnhaagreat", sum := "7dea51893fdb2f15bbb41c34f94ee38c05138b9fe3a2595256c16ac19dd28cf4", func := "almonry/almonrylaw8.JournalActs", spec := "journalActs", inPlace := ["internal/abi.NoEscape", "internal/bytealg.MakeNoZero"], unfollowed := true, recurses := true, apart := false }
def JournalActsSaid : Prop := journalActsRow.holds Tryz.pinned (OpenSpec.ofChange journalActsSpec)

/-- ITS FALSE NEIGHBOUR: 'it returns false'. Refute it at one input. -/
def journalActsWrong : ChangeSpec := { name := "journalActs", fn := fun _ => fun
  | [d1, d2] => { results := [.lit (.bool false)], args := [d1, d2] }
  | _ => none }
def JournalActsWrongFalsely : Prop := journalActsRow.holds Tryz.pinned (OpenSpec.ofChange journalActsWrong)

/-- 'almonrylaw19.Entrys': WHATEVER THE INPUT: true; the input reads as it did. -/
def entrysSpec : ChangeSpec := { name := "entrys", fn := fun _ => fun
  | [d1, d2] => { results := [.lit (.bool true)], args := [d1, d2] }
  | _ => none }
def entrysRow : OpenClaim := { program := "ytmgaegaibglnhaagreat", sum := "7dea51893fdb2f15bbb41c34f94ee38c05138b9fe3a2595256c16ac19dd28cf4", func := "almonry/almonrylaw19.Entrys", spec := "entrys", inPlace := ["internal/abi.NoEscape"], unfollowed := true, recurses := true, apart := false }
def EntrysSaid : Prop := entrysRow.holds Tryz.pinned (OpenSpec.ofChange entrysSpec)

/-- ITS FALSE NEIGHBOUR: 'it returns false'. Refute it at one input. -/
def entrysWrong : ChangeSpec := { name := "entrys", fn := fun _ => fun
  | [d1, d2] => { results := [.lit (.bool false)], args := [d1, d2] }
  | _ => none }
def EntrysWrongFalsely : Prop := entrysRow.holds Tryz.pinned (OpenSpec.ofChange entrysWrong)

/-- 'almonrylaw19.EntrySigns': WHATEVER THE INPUT: true; the input reads as it did. -/
def entrySignsSpec : ChangeSpec := { name := "entrySigns", fn := fun _ => fun
  | [d1, d2, d3] => { results := [.lit (.bool true)], args := [d1, d2, d3] }
  | _ => none }
def entrySignsRow : OpenClaim := { program := "ytmgaegaibglnhaagreat", sum := "7dea51893fdb2f15bbb41c34f94ee38c05138b9fe3a2595256c16ac19dd28cf4", func := "almonry/almonrylaw19.EntrySigns", spec := "entrySigns", inPlace := ["internal/abi.NoEscape"], unfollowed := true, recurses := true, apart := false }
def EntrySignsSaid : Prop := entrySignsRow.holds Tryz.pinned (OpenSpec.ofChange entrySignsSpec)

/-- ITS FALSE NEIGHBOUR: 'it returns false'. Refute it at one input. -/
def entrySignsWrong : ChangeSpec := { name := "entrySigns", fn := fun _ => fun
  | [d1, d2, d3] => { results := [.lit (.bool false)], args := [d1, d2, d3] }
  | _ => none }
def EntrySignsWrongFalsely : Prop := entrySignsRow.holds Tryz.pinned (OpenSpec.ofChange entrySignsWrong)

/-- 'almonrylaw19.EntryBack': WHATEVER THE INPUT: true; the input reads as it did. -/
def entryBackSpec : ChangeSpec := { name := "entryBack", fn := fun _ => fun
  | [d1, d2, d3] => { results := [.lit (.bool true)], args := [d1, d2, d3] }
  | _ => none }
def entryBackRow : OpenClaim := { program := "ytmgaegaibglnhaagreat", sum := "7dea51893fdb2f15bbb41c34f94ee38c05138b9fe3a2595256c16ac19dd28cf4", func := "almonry/almonrylaw19.EntryBack", spec := "entryBack", inPlace := ["internal/abi.NoEscape"], unfollowed := true, recurses := true, apart := false }
def EntryBackSaid : Prop := entryBackRow.holds Tryz.pinned (OpenSpec.ofChange entryBackSpec)

/-- ITS FALSE NEIGHBOUR: 'it returns false'. Refute it at one input. -/
def entryBackWrong : ChangeSpec := { name := "entryBack", fn := fun _ => fun
  | [d1, d2, d3] => { results := [.lit (.bool false)], args := [d1, d2, d3] }
  | _ => none }
def EntryBackWrongFalsely : Prop := entryBackRow.holds Tryz.pinned (OpenSpec.ofChange entryBackWrong)

/-- 'almonrylaw19.EntryForms': WHATEVER THE INPUT: true; the input reads as it did. -/
def entryFormsSpec : ChangeSpec := { name := "entryForms", fn := fun _ => fun
  | [d1, d2] => { results := [.lit (.bool true)], args := [d1, d2] }
  | _ => none }
def entryFormsRow : OpenClaim := { program := "ytmgaegaibglnhaagreat", sum := "7dea51893fdb2f15bbb41c34f94ee38c05138b9fe3a2595256c16ac19dd28cf4", func := "almonry/almonrylaw19.EntryForms", spec := "entryForms", inPlace := ["internal/abi.NoEscape"], unfollowed := true, recurses := true, apart := false }
def EntryFormsSaid : Prop := entryFormsRow.holds Tryz.pinned (OpenSpec.ofChange entryFormsSpec)

/-- ITS FALSE NEIGHBOUR: 'it returns false'. Refute it at one input. -/
def entryFormsWrong : ChangeSpec := { name := "entryForms", fn := fun _ => fun
  | [d1, d2] => { results := [.lit (.bool false)], args := [d1, d2] }
  | _ => none }
def EntryFormsWrongFalsely : Prop := entryFormsRow.holds Tryz.pinned (OpenSpec.ofChange entryFormsWrong)

/-- 'almonrylaw19.EntryCuts': WHATEVER THE INPUT: true; the input reads as it did. -/
def entryCutsSpec : ChangeSpec := { name := "entryCuts", fn := fun _ => fun
  | [d1, d2] => { results := [.lit (.bool true)], args := [d1, d2] }
  | _ => none }
def entryCutsRow : OpenClaim := { program := "ytmgaegaibglnhaagreat", sum := "7dea51893fdb2f15bbb41c34f94ee38c05138b9fe3a2595256c16ac19dd28cf4", func := "almonry/almonrylaw19.EntryCuts", spec := "entryCuts", inPlace := ["internal/abi.NoEscape"], unfollowed := true, recurses := true, apart := false }
def EntryCutsSaid : Prop := entryCutsRow.holds Tryz.pinned (OpenSpec.ofChange entryCutsSpec)

/-- ITS FALSE NEIGHBOUR: 'it returns false'. Refute it at one input. -/
def entryCutsWrong : ChangeSpec := { name := "entryCuts", fn := fun _ => fun
  | [d1, d2] => { results := [.lit (.bool false)], args := [d1, d2] }
  | _ => none }
def EntryCutsWrongFalsely : Prop := entryCutsRow.holds Tryz.pinned (OpenSpec.ofChange entryCutsWrong)

/- THE SECOND FORM. 'bulk': how many values and letters a reading holds, each counted each time it is reached (what is shared counts as often as it is met; a slice's spare places count too). A statement '..UptoSaid' is the law's where the arguments, and the package variables that the reading takes, are together of bulk at most 1048576: NARROWER than '..Said'. Prove '..Said' where nothing that the law and all that it calls make is longer than what came in: it says more and counts as full. Else prove '..UptoSaid'. A law counts once. -/
mutual
def uptoBulk {H : Type} : DataW H → Nat
  | .lit (.string bytes) => bytes.length + 1
  | .lit _ => 1
  | .nil => 1
  | .ptr d => uptoBulk d + 1
  | .slice elems spare => uptoBulkAll elems + uptoBulkAll spare + 1
  | .agg parts => uptoBulkAll parts + 1
  | .iface _ d => uptoBulk d + 1
  | .map entries => uptoBulkEntries entries + 1
  | .held _ => 1
def uptoBulkAll {H : Type} : List (DataW H) → Nat
  | [] => 0
  | d :: r => uptoBulk d + uptoBulkAll r
def uptoBulkEntries {H : Type} : List (Lit × DataW H) → Nat
  | [] => 0
  | x :: r => uptoBulkEntry x + uptoBulkEntries r
def uptoBulkEntry {H : Type} : Lit × DataW H → Nat
  | (.string bytes, d) => bytes.length + uptoBulk d + 1
  | (_, d) => uptoBulk d + 1
 end
def uptoSmall : (H : Type) → List (DataW H) → Bool := fun _ ds => decide (uptoBulkAll ds ≤ 1048576)
def OpenSpec.upto (s : _root_.Go.ChangeSpec) : _root_.Go.OpenSpec := { _root_.Go.OpenSpec.ofChange s with cond := some uptoSmall }

/-- 'almonrylaw8.JournalActs', WHERE WHAT IT READS IS OF BULK AT MOST 1048576: true; the input reads as it did. -/
def journalActsUptoRow : OpenClaim := { program := "ytmgaegaibglnhaagreat", sum := "7dea51893fdb2f15bbb41c34f94ee38c05138b9fe3a2595256c16ac19dd28cf4", func := "almonry/almonrylaw8.JournalActs", spec := "journalActs", inPlace := ["internal/abi.NoEscape", "internal/bytealg.MakeNoZero"], unfollowed := true, recurses := true, apart := false, narrowed := true }
def JournalActsUptoSaid : Prop := journalActsUptoRow.holds Tryz.pinned (OpenSpec.upto journalActsSpec)

/-- 'almonrylaw19.Entrys', WHERE WHAT IT READS IS OF BULK AT MOST 1048576: true; the input reads as it did. -/
def entrysUptoRow : OpenClaim := { program := "ytmgaegaibglnhaagreat", sum := "7dea51893fdb2f15bbb41c34f94ee38c05138b9fe3a2595256c16ac19dd28cf4", func := "almonry/almonrylaw19.Entrys", spec := "entrys", inPlace := ["internal/abi.NoEscape"], unfollowed := true, recurses := true, apart := false, narrowed := true }
def EntrysUptoSaid : Prop := entrysUptoRow.holds Tryz.pinned (OpenSpec.upto entrysSpec)

/-- 'almonrylaw19.EntrySigns', WHERE WHAT IT READS IS OF BULK AT MOST 1048576: true; the input reads as it did. -/
def entrySignsUptoRow : OpenClaim := { program := "ytmgaegaibglnhaagreat", sum := "7dea51893fdb2f15bbb41c34f94ee38c05138b9fe3a2595256c16ac19dd28cf4", func := "almonry/almonrylaw19.EntrySigns", spec := "entrySigns", inPlace := ["internal/abi.NoEscape"], unfollowed := true, recurses := true, apart := false, narrowed := true }
def EntrySignsUptoSaid : Prop := entrySignsUptoRow.holds Tryz.pinned (OpenSpec.upto entrySignsSpec)

/-- 'almonrylaw19.EntryBack', WHERE WHAT IT READS IS OF BULK AT MOST 1048576: true; the input reads as it did. -/
def entryBackUptoRow : OpenClaim := { program := "ytmgaegaibglnhaagreat", sum := "7dea51893fdb2f15bbb41c34f94ee38c05138b9fe3a2595256c16ac19dd28cf4", func := "almonry/almonrylaw19.EntryBack", spec := "entryBack", inPlace := ["internal/abi.NoEscape"], unfollowed := true, recurses := true, apart := false, narrowed := true }
def EntryBackUptoSaid : Prop := entryBackUptoRow.holds Tryz.pinned (OpenSpec.upto entryBackSpec)

/-- 'almonrylaw19.EntryForms', WHERE WHAT IT READS IS OF BULK AT MOST 1048576: true; the input reads as it did. -/
def entryFormsUptoRow : OpenClaim := { program := "ytmgaegaibglnhaagreat", sum := "7dea51893fdb2f15bbb41c34f94ee38c05138b9fe3a2595256c16ac19dd28cf4", func := "almonry/almonrylaw19.EntryForms", spec := "entryForms", inPlace := ["internal/abi.NoEscape"], unfollowed := true, recurses := true, apart := false, narrowed := true }
def EntryFormsUptoSaid : Prop := entryFormsUptoRow.holds Tryz.pinned (OpenSpec.upto entryFormsSpec)

/-- 'almonrylaw19.EntryCuts', WHERE WHAT IT READS IS OF BULK AT MOST 1048576: true; the input reads as it did. -/
def entryCutsUptoRow : OpenClaim := { program := "ytmgaegaibglnhaagreat", sum := "7dea51893fdb2f15bbb41c34f94ee38c05138b9fe3a2595256c16ac19dd28cf4", func := "almonry/almonrylaw19.EntryCuts", spec := "entryCuts", inPlace := ["internal/abi.NoEscape"], unfollowed := true, recurses := true, apart := false, narrowed := true }
def EntryCutsUptoSaid : Prop := entryCutsUptoRow.holds Tryz.pinned (OpenSpec.upto entryCutsSpec)

end Rows
end Go.Proofs.YtmgaegaibglnhaaGreat
