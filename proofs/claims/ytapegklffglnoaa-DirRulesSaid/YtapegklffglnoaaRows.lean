/-
  No cell of these rows narrows 'for every input' (looked for: loops, veiled, ifaces, maps, wideKeys, modest, calm, conditions, laid).
  DERIVED. THE GIVEN ROWS OF THIS SEAT. 10 by the template 'for every input the law returns true; each argument reads behind the call as it read before'; 0 by the template 'total and deterministic' (their statements: YtapegklffglnoaaTotals.lean).
  GIVEN WITH THE SEED: the statements are not yours to turn. If you find one false, say at which input.
  Laid BY PROGRAM, IN A SANDBOX (cutbox-rows.mjs): the forced cells as the released guide's own fill.sh prints them over the translation 5682a342e75b254f… (all of the seat's roots in one cut). By AI agents, Wed Nov 11 2026. No macro, syntax, notation, axiom, sorry.
-/
import Derived.Test.YtapegklffglnoaaChecked
import GoSem.Claim
import GoSem.ClaimJoined
import GoSem.ClaimMapViews
import Derived.JoinedTies
import Derived.KernelRfl
namespace Go.Proofs.Ytapegklffglnoaa
/- THE CELL 'sum', in the pinned program and in every row, IS THE sha256 OF THE DUMP (.gsa) THAT YtapegklffglnoaaProg.lean LOADS. Nothing in Lean hashes anything: it is a label: what it is worth is what the hold of that sum in a sandbox is worth. -/
noncomputable def Try.pinned : Pinned := { name := "ytapegklffglnoaa", sum := "5682a342e75b254ffe463be83c81dd46dc753b0233ea84c575f45389cd1009a7", checked := Try.checked }
namespace Rows
def none {H : Type} : Left H := { results := [], args := [] }

/-- 'almonrylaw16.Paths': WHATEVER THE INPUT: true; the input reads as it did. -/
def pathsSpec : ChangeSpec := { name := "paths", fn := fun _ => fun
  | [d] => { results := [.lit (.bool true)], args := [d] }
  | _ => none }
def pathsRow : OpenClaim := { program := "ytapegklffglnoaa", sum := "5682a342e75b254ffe463be83c81dd46dc753b0233ea84c575f45389cd1009a7", func := "almonry/almonrylaw16.Paths", spec := "paths", inPlace := ["internal/bytealg.IndexByteString", "internal/bytealg.IndexString"], unfollowed := true, recurses := true, named := ["internal/bytealg.MaxLen"], apart := false }
def PathsSaid : Prop := pathsRow.holds Try.pinned (OpenSpec.ofChange pathsSpec)

/-- ITS FALSE NEIGHBOUR: 'it returns false'. Refute it at one input. -/
def pathsWrong : ChangeSpec := { name := "paths", fn := fun _ => fun
  | [d] => { results := [.lit (.bool false)], args := [d] }
  | _ => none }
def PathsWrongFalsely : Prop := pathsRow.holds Try.pinned (OpenSpec.ofChange pathsWrong)

/-- 'almonrylaw16.PathBack': WHATEVER THE INPUT: true; the input reads as it did. -/
def pathBackSpec : ChangeSpec := { name := "pathBack", fn := fun _ => fun
  | [d] => { results := [.lit (.bool true)], args := [d] }
  | _ => none }
def pathBackRow : OpenClaim := { program := "ytapegklffglnoaa", sum := "5682a342e75b254ffe463be83c81dd46dc753b0233ea84c575f45389cd1009a7", func := "almonry/almonrylaw16.PathBack", spec := "pathBack", inPlace := ["internal/bytealg.IndexByteString", "internal/bytealg.IndexString"], unfollowed := true, recurses := true, named := ["internal/bytealg.MaxLen"], apart := false }
def PathBackSaid : Prop := pathBackRow.holds Try.pinned (OpenSpec.ofChange pathBackSpec)

/-- ITS FALSE NEIGHBOUR: 'it returns false'. Refute it at one input. -/
def pathBackWrong : ChangeSpec := { name := "pathBack", fn := fun _ => fun
  | [d] => { results := [.lit (.bool false)], args := [d] }
  | _ => none }
def PathBackWrongFalsely : Prop := pathBackRow.holds Try.pinned (OpenSpec.ofChange pathBackWrong)

/-- 'almonrylaw16.PathWrong': WHATEVER THE INPUT: true; the input reads as it did. -/
def pathWrongSpec : ChangeSpec := { name := "pathWrong", fn := fun _ => fun
  | [d1, d2] => { results := [.lit (.bool true)], args := [d1, d2] }
  | _ => none }
def pathWrongRow : OpenClaim := { program := "ytapegklffglnoaa", sum := "5682a342e75b254ffe463be83c81dd46dc753b0233ea84c575f45389cd1009a7", func := "almonry/almonrylaw16.PathWrong", spec := "pathWrong", inPlace := ["internal/bytealg.IndexByteString", "internal/bytealg.IndexString"], unfollowed := true, recurses := true, named := ["internal/bytealg.MaxLen"], apart := false }
def PathWrongSaid : Prop := pathWrongRow.holds Try.pinned (OpenSpec.ofChange pathWrongSpec)

/-- ITS FALSE NEIGHBOUR: 'it returns false'. Refute it at one input. -/
def pathWrongWrong : ChangeSpec := { name := "pathWrong", fn := fun _ => fun
  | [d1, d2] => { results := [.lit (.bool false)], args := [d1, d2] }
  | _ => none }
def PathWrongWrongFalsely : Prop := pathWrongRow.holds Try.pinned (OpenSpec.ofChange pathWrongWrong)

/-- 'almonrylaw13.Dirs': WHATEVER THE INPUT: true; the input reads as it did. -/
def dirsSpec : ChangeSpec := { name := "dirs", fn := fun _ => fun
  | [d1, d2, d3, d4] => { results := [.lit (.bool true)], args := [d1, d2, d3, d4] }
  | _ => none }
def dirsRow : OpenClaim := { program := "ytapegklffglnoaa", sum := "5682a342e75b254ffe463be83c81dd46dc753b0233ea84c575f45389cd1009a7", func := "almonry/almonrylaw13.Dirs", spec := "dirs", inPlace := ["internal/bytealg.IndexByteString", "internal/bytealg.IndexString"], unfollowed := true, recurses := true, named := ["internal/bytealg.MaxLen"], apart := false }
def DirsSaid : Prop := dirsRow.holds Try.pinned (OpenSpec.ofChange dirsSpec)

/-- ITS FALSE NEIGHBOUR: 'it returns false'. Refute it at one input. -/
def dirsWrong : ChangeSpec := { name := "dirs", fn := fun _ => fun
  | [d1, d2, d3, d4] => { results := [.lit (.bool false)], args := [d1, d2, d3, d4] }
  | _ => none }
def DirsWrongFalsely : Prop := dirsRow.holds Try.pinned (OpenSpec.ofChange dirsWrong)

/-- 'almonrylaw13.DirRules': WHATEVER THE INPUT: true; the input reads as it did. -/
def dirRulesSpec : ChangeSpec := { name := "dirRules", fn := fun _ => fun
  | [d1, d2] => { results := [.lit (.bool true)], args := [d1, d2] }
  | _ => none }
def dirRulesRow : OpenClaim := { program := "ytapegklffglnoaa", sum := "5682a342e75b254ffe463be83c81dd46dc753b0233ea84c575f45389cd1009a7", func := "almonry/almonrylaw13.DirRules", spec := "dirRules", inPlace := ["internal/bytealg.IndexByteString", "internal/bytealg.IndexString"], unfollowed := true, recurses := true, named := ["internal/bytealg.MaxLen"], apart := false }
def DirRulesSaid : Prop := dirRulesRow.holds Try.pinned (OpenSpec.ofChange dirRulesSpec)

/-- ITS FALSE NEIGHBOUR: 'it returns false'. Refute it at one input. -/
def dirRulesWrong : ChangeSpec := { name := "dirRules", fn := fun _ => fun
  | [d1, d2] => { results := [.lit (.bool false)], args := [d1, d2] }
  | _ => none }
def DirRulesWrongFalsely : Prop := dirRulesRow.holds Try.pinned (OpenSpec.ofChange dirRulesWrong)

/-- 'almonrylaw13.DirForms': WHATEVER THE INPUT: true; the input reads as it did. -/
def dirFormsSpec : ChangeSpec := { name := "dirForms", fn := fun _ => fun
  | [d1, d2] => { results := [.lit (.bool true)], args := [d1, d2] }
  | _ => none }
def dirFormsRow : OpenClaim := { program := "ytapegklffglnoaa", sum := "5682a342e75b254ffe463be83c81dd46dc753b0233ea84c575f45389cd1009a7", func := "almonry/almonrylaw13.DirForms", spec := "dirForms", inPlace := ["internal/bytealg.IndexByteString", "internal/bytealg.IndexString"], unfollowed := true, recurses := true, named := ["internal/bytealg.MaxLen"], apart := false }
def DirFormsSaid : Prop := dirFormsRow.holds Try.pinned (OpenSpec.ofChange dirFormsSpec)

/-- ITS FALSE NEIGHBOUR: 'it returns false'. Refute it at one input. -/
def dirFormsWrong : ChangeSpec := { name := "dirForms", fn := fun _ => fun
  | [d1, d2] => { results := [.lit (.bool false)], args := [d1, d2] }
  | _ => none }
def DirFormsWrongFalsely : Prop := dirFormsRow.holds Try.pinned (OpenSpec.ofChange dirFormsWrong)

/-- 'almonrylaw13.DirFull': WHATEVER THE INPUT: true; the input reads as it did. -/
def dirFullSpec : ChangeSpec := { name := "dirFull", fn := fun _ => fun
  | [d] => { results := [.lit (.bool true)], args := [d] }
  | _ => none }
def dirFullRow : OpenClaim := { program := "ytapegklffglnoaa", sum := "5682a342e75b254ffe463be83c81dd46dc753b0233ea84c575f45389cd1009a7", func := "almonry/almonrylaw13.DirFull", spec := "dirFull", inPlace := ["internal/bytealg.IndexByteString", "internal/bytealg.IndexString"], unfollowed := true, recurses := true, named := ["internal/bytealg.MaxLen"], apart := false }
def DirFullSaid : Prop := dirFullRow.holds Try.pinned (OpenSpec.ofChange dirFullSpec)

/-- ITS FALSE NEIGHBOUR: 'it returns false'. Refute it at one input. -/
def dirFullWrong : ChangeSpec := { name := "dirFull", fn := fun _ => fun
  | [d] => { results := [.lit (.bool false)], args := [d] }
  | _ => none }
def DirFullWrongFalsely : Prop := dirFullRow.holds Try.pinned (OpenSpec.ofChange dirFullWrong)

/-- 'almonrylaw14.Itabs': WHATEVER THE INPUT: true; the input reads as it did. -/
def itabsSpec : ChangeSpec := { name := "itabs", fn := fun _ => fun
  | [d1, d2] => { results := [.lit (.bool true)], args := [d1, d2] }
  | _ => none }
def itabsRow : OpenClaim := { program := "ytapegklffglnoaa", sum := "5682a342e75b254ffe463be83c81dd46dc753b0233ea84c575f45389cd1009a7", func := "almonry/almonrylaw14.Itabs", spec := "itabs", unfollowed := true, recurses := true, apart := false }
def ItabsSaid : Prop := itabsRow.holds Try.pinned (OpenSpec.ofChange itabsSpec)

/-- ITS FALSE NEIGHBOUR: 'it returns false'. Refute it at one input. -/
def itabsWrong : ChangeSpec := { name := "itabs", fn := fun _ => fun
  | [d1, d2] => { results := [.lit (.bool false)], args := [d1, d2] }
  | _ => none }
def ItabsWrongFalsely : Prop := itabsRow.holds Try.pinned (OpenSpec.ofChange itabsWrong)

/-- 'almonrylaw14.ItabBack': WHATEVER THE INPUT: true; the input reads as it did. -/
def itabBackSpec : ChangeSpec := { name := "itabBack", fn := fun _ => fun
  | [d1, d2] => { results := [.lit (.bool true)], args := [d1, d2] }
  | _ => none }
def itabBackRow : OpenClaim := { program := "ytapegklffglnoaa", sum := "5682a342e75b254ffe463be83c81dd46dc753b0233ea84c575f45389cd1009a7", func := "almonry/almonrylaw14.ItabBack", spec := "itabBack", unfollowed := true, recurses := true, apart := false }
def ItabBackSaid : Prop := itabBackRow.holds Try.pinned (OpenSpec.ofChange itabBackSpec)

/-- ITS FALSE NEIGHBOUR: 'it returns false'. Refute it at one input. -/
def itabBackWrong : ChangeSpec := { name := "itabBack", fn := fun _ => fun
  | [d1, d2] => { results := [.lit (.bool false)], args := [d1, d2] }
  | _ => none }
def ItabBackWrongFalsely : Prop := itabBackRow.holds Try.pinned (OpenSpec.ofChange itabBackWrong)

/-- 'almonrylaw14.ItabForms': WHATEVER THE INPUT: true; the input reads as it did. -/
def itabFormsSpec : ChangeSpec := { name := "itabForms", fn := fun _ => fun
  | [d1, d2] => { results := [.lit (.bool true)], args := [d1, d2] }
  | _ => none }
def itabFormsRow : OpenClaim := { program := "ytapegklffglnoaa", sum := "5682a342e75b254ffe463be83c81dd46dc753b0233ea84c575f45389cd1009a7", func := "almonry/almonrylaw14.ItabForms", spec := "itabForms", unfollowed := true, recurses := true, apart := false }
def ItabFormsSaid : Prop := itabFormsRow.holds Try.pinned (OpenSpec.ofChange itabFormsSpec)

/-- ITS FALSE NEIGHBOUR: 'it returns false'. Refute it at one input. -/
def itabFormsWrong : ChangeSpec := { name := "itabForms", fn := fun _ => fun
  | [d1, d2] => { results := [.lit (.bool false)], args := [d1, d2] }
  | _ => none }
def ItabFormsWrongFalsely : Prop := itabFormsRow.holds Try.pinned (OpenSpec.ofChange itabFormsWrong)

/- THE SECOND FORM. 'bulk': how many values and letters a reading holds, each counted each time it is reached (what is shared counts as often as it is met; a slice's spare places count too). A statement '..UptoSaid' is the law's where the arguments, and the package variables that the reading takes, are together of bulk at most 1048576: NARROWER than '..Said'. Prove '..Said' where nothing that the law and all that it calls make is longer than what came in: it says more and counts as full. Else prove '..UptoSaid'. A law counts once. -/
mutual
def uptoBulk {H : Type} : DataW H → Nat
  | .lit (.string bytes) => bytes.length + 1
  | .lit _ => 1
  | .nil => 1
  | .ptr d => uptoBulk d + 1
  | .slice elems spare => uptoBulkAll elems + uptoBulkAll spare + 1
  | .agg parts => uptoBulkAll parts + 1
  | .iface _ d => uptoBulk d + 1
  | .map entries => uptoBulkEntries entries + 1
  | .held _ => 1
def uptoBulkAll {H : Type} : List (DataW H) → Nat
  | [] => 0
  | d :: r => uptoBulk d + uptoBulkAll r
def uptoBulkEntries {H : Type} : List (Lit × DataW H) → Nat
  | [] => 0
  | x :: r => uptoBulkEntry x + uptoBulkEntries r
def uptoBulkEntry {H : Type} : Lit × DataW H → Nat
  | (.string bytes, d) => bytes.length + uptoBulk d + 1
  | (_, d) => uptoBulk d + 1
 end
def uptoSmall : (H : Type) → List (DataW H) → Bool := fun _ ds => decide (uptoBulkAll ds ≤ 1048576)
def OpenSpec.upto (s : _root_.Go.ChangeSpec) : _root_.Go.OpenSpec := { _root_.Go.OpenSpec.ofChange s with cond := some uptoSmall }

/-- 'almonrylaw16.Paths', WHERE WHAT IT READS IS OF BULK AT MOST 1048576: true; the input reads as it did. -/
def pathsUptoRow : OpenClaim := { program := "ytapegklffglnoaa", sum := "5682a342e75b254ffe463be83c81dd46dc753b0233ea84c575f45389cd1009a7", func := "almonry/almonrylaw16.Paths", spec := "paths", inPlace := ["internal/bytealg.IndexByteString", "internal/bytealg.IndexString"], unfollowed := true, recurses := true, named := ["internal/bytealg.MaxLen"], apart := false, narrowed := true }
def PathsUptoSaid : Prop := pathsUptoRow.holds Try.pinned (OpenSpec.upto pathsSpec)

/-- 'almonrylaw16.PathBack', WHERE WHAT IT READS IS OF BULK AT MOST 1048576: true; the input reads as it did. -/
def pathBackUptoRow : OpenClaim := { program := "ytapegklffglnoaa", sum := "5682a342e75b254ffe463be83c81dd46dc753b0233ea84c575f45389cd1009a7", func := "almonry/almonrylaw16.PathBack", spec := "pathBack", inPlace := ["internal/bytealg.IndexByteString", "internal/bytealg.IndexString"], unfollowed := true, recurses := true, named := ["internal/bytealg.MaxLen"], apart := false, narrowed := true }
def PathBackUptoSaid : Prop := pathBackUptoRow.holds Try.pinned (OpenSpec.upto pathBackSpec)

/-- 'almonrylaw16.PathWrong', WHERE WHAT IT READS IS OF BULK AT MOST 1048576: true; the input reads as it did. -/
def pathWrongUptoRow : OpenClaim := { program := "ytapegklffglnoaa", sum := "5682a342e75b254ffe463be83c81dd46dc753b0233ea84c575f45389cd1009a7", func := "almonry/almonrylaw16.PathWrong", spec := "pathWrong", inPlace := ["internal/bytealg.IndexByteString", "internal/bytealg.IndexString"], unfollowed := true, recurses := true, named := ["internal/bytealg.MaxLen"], apart := false, narrowed := true }
def PathWrongUptoSaid : Prop := pathWrongUptoRow.holds Try.pinned (OpenSpec.upto pathWrongSpec)

/-- 'almonrylaw13.Dirs', WHERE WHAT IT READS IS OF BULK AT MOST 1048576: true; the input reads as it did. -/
def dirsUptoRow : OpenClaim := { program := "ytapegklffglnoaa", sum := "5682a342e75b254ffe463be83c81dd46dc753b0233ea84c575f45389cd1009a7", func := "almonry/almonrylaw13.Dirs", spec := "dirs", inPlace := ["internal/bytealg.IndexByteString", "internal/bytealg.IndexString"], unfollowed := true, recurses := true, named := ["internal/bytealg.MaxLen"], apart := false, narrowed := true }
def DirsUptoSaid : Prop := dirsUptoRow.holds Try.pinned (OpenSpec.upto dirsSpec)

/-- 'almonrylaw13.DirRules', WHERE WHAT IT READS IS OF BULK AT MOST 1048576: true; the input reads as it did. -/
def dirRulesUptoRow : OpenClaim := { program := "ytapegklffglnoaa", sum := "5682a342e75b254ffe463be83c81dd46dc753b0233ea84c575f45389cd1009a7", func := "almonry/almonrylaw13.DirRules", spec := "dirRules", inPlace := ["internal/bytealg.IndexByteString", "internal/bytealg.IndexString"], unfollowed := true, recurses := true, named := ["internal/bytealg.MaxLen"], apart := false, narrowed := true }
def DirRulesUptoSaid : Prop := dirRulesUptoRow.holds Try.pinned (OpenSpec.upto dirRulesSpec)

/-- 'almonrylaw13.DirForms', WHERE WHAT IT READS IS OF BULK AT MOST 1048576: true; the input reads as it did. -/
def dirFormsUptoRow : OpenClaim := { program := "ytapegklffglnoaa", sum := "5682a342e75b254ffe463be83c81dd46dc753b0233ea84c575f45389cd1009a7", func := "almonry/almonrylaw13.DirForms", spec := "dirForms", inPlace := ["internal/bytealg.IndexByteString", "internal/bytealg.IndexString"], unfollowed := true, recurses := true, named := ["internal/bytealg.MaxLen"], apart := false, narrowed := true }
def DirFormsUptoSaid : Prop := dirFormsUptoRow.holds Try.pinned (OpenSpec.upto dirFormsSpec)

/-- 'almonrylaw13.DirFull', WHERE WHAT IT READS IS OF BULK AT MOST 1048576: true; the input reads as it did. -/
def dirFullUptoRow : OpenClaim := { program := "ytapegklffglnoaa", sum := "5682a342e75b254ffe463be83c81dd46dc753b0233ea84c575f45389cd1009a7", func := "almonry/almonrylaw13.DirFull", spec := "dirFull", inPlace := ["internal/bytealg.IndexByteString", "internal/bytealg.IndexString"], unfollowed := true, recurses := true, named := ["internal/bytealg.MaxLen"], apart := false, narrowed := true }
def DirFullUptoSaid : Prop := dirFullUptoRow.holds Try.pinned (OpenSpec.upto dirFullSpec)

/-- 'almonrylaw14.Itabs', WHERE WHAT IT READS IS OF BULK AT MOST 1048576: true; the input reads as it did. -/
def itabsUptoRow : OpenClaim := { program := "ytapegklffglnoaa", sum := "5682a342e75b254ffe463be83c81dd46dc753b0233ea84c575f45389cd1009a7", func := "almonry/almonrylaw14.Itabs", spec := "itabs", unfollowed := true, recurses := true, apart := false, narrowed := true }
def ItabsUptoSaid : Prop := itabsUptoRow.holds Try.pinned (OpenSpec.upto itabsSpec)

/-- 'almonrylaw14.ItabBack', WHERE WHAT IT READS IS OF BULK AT MOST 1048576: true; the input reads as it did. -/
def itabBackUptoRow : OpenClaim := { program := "ytapegklffglnoaa", sum := "5682a342e75b254ffe463be83c81dd46dc753b0233ea84c575f45389cd1009a7", func := "almonry/almonrylaw14.ItabBack", spec := "itabBack", unfollowed := true, recurses := true, apart := false, narrowed := true }
def ItabBackUptoSaid : Prop := itabBackUptoRow.holds Try.pinned (OpenSpec.upto itabBackSpec)

/-- 'almonrylaw14.ItabForms', WHERE WHAT IT READS IS OF BULK AT MOST 1048576: true; the input reads as it did. -/
def itabFormsUptoRow : OpenClaim := { program := "ytapegklffglnoaa", sum := "5682a342e75b254ffe463be83c81dd46dc753b0233ea84c575f45389cd1009a7", func := "almonry/almonrylaw14.ItabForms", spec := "itabForms", unfollowed := true, recurses := true, apart := false, narrowed := true }
def ItabFormsUptoSaid : Prop := itabFormsUptoRow.holds Try.pinned (OpenSpec.upto itabFormsSpec)

end Rows
end Go.Proofs.Ytapegklffglnoaa
