/-
  No cell of these rows narrows 'for every input' (looked for: loops, veiled, ifaces, maps, wideKeys, modest, calm, conditions, laid).
  DERIVED. THE GIVEN ROWS OF THIS SEAT. 8 by the template 'for every input the law returns true; each argument reads behind the call as it read before'; 0 by the template 'total and deterministic' (their statements: YtpjfhbmegabafaaTotals.lean).
  GIVEN WITH THE SEED: the statements are not yours to turn. If you find one false, say at which input.
  Laid BY PROGRAM, IN A SANDBOX (cutbox-rows.mjs): the forced cells as the released guide's own fill.sh prints them over the translation 676133becbac73d8… (all of the seat's roots in one cut). By AI agents, Wed Nov 11 2026. No macro, syntax, notation, axiom, sorry.
-/
import Derived.Test.YtpjfhbmegabafaaChecked
import GoSem.Claim
import GoSem.ClaimJoined
import GoSem.ClaimMapViews
import Derived.JoinedTies
import Derived.KernelRfl
namespace Go.Proofs.Ytpjfhbmegabafaa
/- THE CELL 'sum', in the pinned program and in every row, IS THE sha256 OF THE DUMP (.gsa) THAT YtpjfhbmegabafaaProg.lean LOADS. Nothing in Lean hashes anything: it is a label: what it is worth is what the hold of that sum in a sandbox is worth. -/
noncomputable def Try.pinned : Pinned := { name := "ytpjfhbmegabafaa", sum := "676133becbac73d83c88552c7681c80c267bed7116ed6d25311e70772e363af6", checked := Try.checked }
namespace Rows
def none {H : Type} : Left H := { results := [], args := [] }

/-- 'almonrylaw11.ObjectActs': WHATEVER THE INPUT: true; the input reads as it did. -/
def objectActsSpec : ChangeSpec := { name := "objectActs", fn := fun _ => fun
  | [d1, d2] => { results := [.lit (.bool true)], args := [d1, d2] }
  | _ => none }
def objectActsRow : OpenClaim := { program := "ytpjfhbmegabafaa", sum := "676133becbac73d83c88552c7681c80c267bed7116ed6d25311e70772e363af6", func := "almonry/almonrylaw11.ObjectActs", spec := "objectActs", unfollowed := true, recurses := true, plainKeys := false, apart := false }
def ObjectActsSaid : Prop := objectActsRow.holds Try.pinned (OpenSpec.ofChange objectActsSpec)

/-- ITS FALSE NEIGHBOUR: 'it returns false'. Refute it at one input. -/
def objectActsWrong : ChangeSpec := { name := "objectActs", fn := fun _ => fun
  | [d1, d2] => { results := [.lit (.bool false)], args := [d1, d2] }
  | _ => none }
def ObjectActsWrongFalsely : Prop := objectActsRow.holds Try.pinned (OpenSpec.ofChange objectActsWrong)

/-- 'almonrylaw11.ObjectRoom': WHATEVER THE INPUT: true; the input reads as it did. -/
def objectRoomSpec : ChangeSpec := { name := "objectRoom", fn := fun _ => fun
  | [d1, d2] => { results := [.lit (.bool true)], args := [d1, d2] }
  | _ => none }
def objectRoomRow : OpenClaim := { program := "ytpjfhbmegabafaa", sum := "676133becbac73d83c88552c7681c80c267bed7116ed6d25311e70772e363af6", func := "almonry/almonrylaw11.ObjectRoom", spec := "objectRoom", unfollowed := true, recurses := true, plainKeys := false, apart := false }
def ObjectRoomSaid : Prop := objectRoomRow.holds Try.pinned (OpenSpec.ofChange objectRoomSpec)

/-- ITS FALSE NEIGHBOUR: 'it returns false'. Refute it at one input. -/
def objectRoomWrong : ChangeSpec := { name := "objectRoom", fn := fun _ => fun
  | [d1, d2] => { results := [.lit (.bool false)], args := [d1, d2] }
  | _ => none }
def ObjectRoomWrongFalsely : Prop := objectRoomRow.holds Try.pinned (OpenSpec.ofChange objectRoomWrong)

/-- 'almonrylaw11.ObjectForms': WHATEVER THE INPUT: true; the input reads as it did. -/
def objectFormsSpec : ChangeSpec := { name := "objectForms", fn := fun _ => fun
  | [d1, d2, d3] => { results := [.lit (.bool true)], args := [d1, d2, d3] }
  | _ => none }
def objectFormsRow : OpenClaim := { program := "ytpjfhbmegabafaa", sum := "676133becbac73d83c88552c7681c80c267bed7116ed6d25311e70772e363af6", func := "almonry/almonrylaw11.ObjectForms", spec := "objectForms", unfollowed := true, recurses := true, plainKeys := false, apart := false }
def ObjectFormsSaid : Prop := objectFormsRow.holds Try.pinned (OpenSpec.ofChange objectFormsSpec)

/-- ITS FALSE NEIGHBOUR: 'it returns false'. Refute it at one input. -/
def objectFormsWrong : ChangeSpec := { name := "objectForms", fn := fun _ => fun
  | [d1, d2, d3] => { results := [.lit (.bool false)], args := [d1, d2, d3] }
  | _ => none }
def ObjectFormsWrongFalsely : Prop := objectFormsRow.holds Try.pinned (OpenSpec.ofChange objectFormsWrong)

/-- 'almonrylaw12.Builds': WHATEVER THE INPUT: true; the input reads as it did. -/
def buildsSpec : ChangeSpec := { name := "builds", fn := fun _ => fun
  | [d] => { results := [.lit (.bool true)], args := [d] }
  | _ => none }
def buildsRow : OpenClaim := { program := "ytpjfhbmegabafaa", sum := "676133becbac73d83c88552c7681c80c267bed7116ed6d25311e70772e363af6", func := "almonry/almonrylaw12.Builds", spec := "builds", inPlace := ["internal/abi.NoEscape", "internal/bytealg.MakeNoZero"], unfollowed := true, recurses := true, plainKeys := false, apart := false }
def BuildsSaid : Prop := buildsRow.holds Try.pinned (OpenSpec.ofChange buildsSpec)

/-- ITS FALSE NEIGHBOUR: 'it returns false'. Refute it at one input. -/
def buildsWrong : ChangeSpec := { name := "builds", fn := fun _ => fun
  | [d] => { results := [.lit (.bool false)], args := [d] }
  | _ => none }
def BuildsWrongFalsely : Prop := buildsRow.holds Try.pinned (OpenSpec.ofChange buildsWrong)

/-- 'almonrylaw12.Loads': WHATEVER THE INPUT: true; the input reads as it did. -/
def loadsSpec : ChangeSpec := { name := "loads", fn := fun _ => fun
  | [d1, d2, d3] => { results := [.lit (.bool true)], args := [d1, d2, d3] }
  | _ => none }
def loadsRow : OpenClaim := { program := "ytpjfhbmegabafaa", sum := "676133becbac73d83c88552c7681c80c267bed7116ed6d25311e70772e363af6", func := "almonry/almonrylaw12.Loads", spec := "loads", inPlace := ["internal/abi.NoEscape", "internal/bytealg.MakeNoZero"], unfollowed := true, recurses := true, plainKeys := false, apart := false }
def LoadsSaid : Prop := loadsRow.holds Try.pinned (OpenSpec.ofChange loadsSpec)

/-- ITS FALSE NEIGHBOUR: 'it returns false'. Refute it at one input. -/
def loadsWrong : ChangeSpec := { name := "loads", fn := fun _ => fun
  | [d1, d2, d3] => { results := [.lit (.bool false)], args := [d1, d2, d3] }
  | _ => none }
def LoadsWrongFalsely : Prop := loadsRow.holds Try.pinned (OpenSpec.ofChange loadsWrong)

/-- 'almonrylaw12.FileBack': WHATEVER THE INPUT: true; the input reads as it did. -/
def fileBackSpec : ChangeSpec := { name := "fileBack", fn := fun _ => fun
  | [d1, d2, d3] => { results := [.lit (.bool true)], args := [d1, d2, d3] }
  | _ => none }
def fileBackRow : OpenClaim := { program := "ytpjfhbmegabafaa", sum := "676133becbac73d83c88552c7681c80c267bed7116ed6d25311e70772e363af6", func := "almonry/almonrylaw12.FileBack", spec := "fileBack", inPlace := ["internal/abi.NoEscape", "internal/bytealg.MakeNoZero"], unfollowed := true, recurses := true, plainKeys := false, apart := false }
def FileBackSaid : Prop := fileBackRow.holds Try.pinned (OpenSpec.ofChange fileBackSpec)

/-- ITS FALSE NEIGHBOUR: 'it returns false'. Refute it at one input. -/
def fileBackWrong : ChangeSpec := { name := "fileBack", fn := fun _ => fun
  | [d1, d2, d3] => { results := [.lit (.bool false)], args := [d1, d2, d3] }
  | _ => none }
def FileBackWrongFalsely : Prop := fileBackRow.holds Try.pinned (OpenSpec.ofChange fileBackWrong)

/-- 'almonrylaw12.FileObjects': WHATEVER THE INPUT: true; the input reads as it did. -/
def fileObjectsSpec : ChangeSpec := { name := "fileObjects", fn := fun _ => fun
  | [d1, d2] => { results := [.lit (.bool true)], args := [d1, d2] }
  | _ => none }
def fileObjectsRow : OpenClaim := { program := "ytpjfhbmegabafaa", sum := "676133becbac73d83c88552c7681c80c267bed7116ed6d25311e70772e363af6", func := "almonry/almonrylaw12.FileObjects", spec := "fileObjects", inPlace := ["internal/abi.NoEscape", "internal/bytealg.MakeNoZero"], unfollowed := true, recurses := true, plainKeys := false, apart := false }
def FileObjectsSaid : Prop := fileObjectsRow.holds Try.pinned (OpenSpec.ofChange fileObjectsSpec)

/-- ITS FALSE NEIGHBOUR: 'it returns false'. Refute it at one input. -/
def fileObjectsWrong : ChangeSpec := { name := "fileObjects", fn := fun _ => fun
  | [d1, d2] => { results := [.lit (.bool false)], args := [d1, d2] }
  | _ => none }
def FileObjectsWrongFalsely : Prop := fileObjectsRow.holds Try.pinned (OpenSpec.ofChange fileObjectsWrong)

/-- 'almonrylaw12.FileForms': WHATEVER THE INPUT: true; the input reads as it did. -/
def fileFormsSpec : ChangeSpec := { name := "fileForms", fn := fun _ => fun
  | [d1, d2] => { results := [.lit (.bool true)], args := [d1, d2] }
  | _ => none }
def fileFormsRow : OpenClaim := { program := "ytpjfhbmegabafaa", sum := "676133becbac73d83c88552c7681c80c267bed7116ed6d25311e70772e363af6", func := "almonry/almonrylaw12.FileForms", spec := "fileForms", inPlace := ["internal/abi.NoEscape", "internal/bytealg.MakeNoZero"], unfollowed := true, recurses := true, plainKeys := false, apart := false }
def FileFormsSaid : Prop := fileFormsRow.holds Try.pinned (OpenSpec.ofChange fileFormsSpec)

/-- ITS FALSE NEIGHBOUR: 'it returns false'. Refute it at one input. -/
def fileFormsWrong : ChangeSpec := { name := "fileForms", fn := fun _ => fun
  | [d1, d2] => { results := [.lit (.bool false)], args := [d1, d2] }
  | _ => none }
def FileFormsWrongFalsely : Prop := fileFormsRow.holds Try.pinned (OpenSpec.ofChange fileFormsWrong)

/- THE SECOND FORM. 'bulk': how many values and letters a reading holds, each counted each time it is reached (what is shared counts as often as it is met; a slice's spare places count too). A statement '..UptoSaid' is the law's where the arguments, and the package variables that the reading takes, are together of bulk at most 1048576: NARROWER than '..Said'. Prove '..Said' where nothing that the law and all that it calls make is longer than what came in: it says more and counts as full. Else prove '..UptoSaid'. A law counts once. -/
mutual
def uptoBulk {H : Type} : DataW H → Nat
  | .lit (.string bytes) => bytes.length + 1
  | .lit _ => 1
  | .nil => 1
  | .ptr d => uptoBulk d + 1
  | .slice elems spare => uptoBulkAll elems + uptoBulkAll spare + 1
  | .agg parts => uptoBulkAll parts + 1
  | .iface _ d => uptoBulk d + 1
  | .map entries => uptoBulkEntries entries + 1
  | .held _ => 1
def uptoBulkAll {H : Type} : List (DataW H) → Nat
  | [] => 0
  | d :: r => uptoBulk d + uptoBulkAll r
def uptoBulkEntries {H : Type} : List (Lit × DataW H) → Nat
  | [] => 0
  | x :: r => uptoBulkEntry x + uptoBulkEntries r
def uptoBulkEntry {H : Type} : Lit × DataW H → Nat
  | (.string bytes, d) => bytes.length + uptoBulk d + 1
  | (_, d) => uptoBulk d + 1
 end
def uptoSmall : (H : Type) → List (DataW H) → Bool := fun _ ds => decide (uptoBulkAll ds ≤ 1048576)
def OpenSpec.upto (s : _root_.Go.ChangeSpec) : _root_.Go.OpenSpec := { _root_.Go.OpenSpec.ofChange s with cond := some uptoSmall }

/-- 'almonrylaw11.ObjectActs', WHERE WHAT IT READS IS OF BULK AT MOST 1048576: true; the input reads as it did. -/
def objectActsUptoRow : OpenClaim := { program := "ytpjfhbmegabafaa", sum := "676133becbac73d83c88552c7681c80c267bed7116ed6d25311e70772e363af6", func := "almonry/almonrylaw11.ObjectActs", spec := "objectActs", unfollowed := true, recurses := true, plainKeys := false, apart := false, narrowed := true }
def ObjectActsUptoSaid : Prop := objectActsUptoRow.holds Try.pinned (OpenSpec.upto objectActsSpec)

/-- 'almonrylaw11.ObjectRoom', WHERE WHAT IT READS IS OF BULK AT MOST 1048576: true; the input reads as it did. -/
def objectRoomUptoRow : OpenClaim := { program := "ytpjfhbmegabafaa", sum := "676133becbac73d83c88552c7681c80c267bed7116ed6d25311e70772e363af6", func := "almonry/almonrylaw11.ObjectRoom", spec := "objectRoom", unfollowed := true, recurses := true, plainKeys := false, apart := false, narrowed := true }
def ObjectRoomUptoSaid : Prop := objectRoomUptoRow.holds Try.pinned (OpenSpec.upto objectRoomSpec)

/-- 'almonrylaw11.ObjectForms', WHERE WHAT IT READS IS OF BULK AT MOST 1048576: true; the input reads as it did. -/
def objectFormsUptoRow : OpenClaim := { program := "ytpjfhbmegabafaa", sum := "676133becbac73d83c88552c7681c80c267bed7116ed6d25311e70772e363af6", func := "almonry/almonrylaw11.ObjectForms", spec := "objectForms", unfollowed := true, recurses := true, plainKeys := false, apart := false, narrowed := true }
def ObjectFormsUptoSaid : Prop := objectFormsUptoRow.holds Try.pinned (OpenSpec.upto objectFormsSpec)

/-- 'almonrylaw12.Builds', WHERE WHAT IT READS IS OF BULK AT MOST 1048576: true; the input reads as it did. -/
def buildsUptoRow : OpenClaim := { program := "ytpjfhbmegabafaa", sum := "676133becbac73d83c88552c7681c80c267bed7116ed6d25311e70772e363af6", func := "almonry/almonrylaw12.Builds", spec := "builds", inPlace := ["internal/abi.NoEscape", "internal/bytealg.MakeNoZero"], unfollowed := true, recurses := true, plainKeys := false, apart := false, narrowed := true }
def BuildsUptoSaid : Prop := buildsUptoRow.holds Try.pinned (OpenSpec.upto buildsSpec)

/-- 'almonrylaw12.Loads', WHERE WHAT IT READS IS OF BULK AT MOST 1048576: true; the input reads as it did. -/
def loadsUptoRow : OpenClaim := { program := "ytpjfhbmegabafaa", sum := "676133becbac73d83c88552c7681c80c267bed7116ed6d25311e70772e363af6", func := "almonry/almonrylaw12.Loads", spec := "loads", inPlace := ["internal/abi.NoEscape", "internal/bytealg.MakeNoZero"], unfollowed := true, recurses := true, plainKeys := false, apart := false, narrowed := true }
def LoadsUptoSaid : Prop := loadsUptoRow.holds Try.pinned (OpenSpec.upto loadsSpec)

/-- 'almonrylaw12.FileBack', WHERE WHAT IT READS IS OF BULK AT MOST 1048576: true; the input reads as it did. -/
def fileBackUptoRow : OpenClaim := { program := "ytpjfhbmegabafaa", sum := "676133becbac73d83c88552c7681c80c267bed7116ed6d25311e70772e363af6", func := "almonry/almonrylaw12.FileBack", spec := "fileBack", inPlace := ["internal/abi.NoEscape", "internal/bytealg.MakeNoZero"], unfollowed := true, recurses := true, plainKeys := false, apart := false, narrowed := true }
def FileBackUptoSaid : Prop := fileBackUptoRow.holds Try.pinned (OpenSpec.upto fileBackSpec)

/-- 'almonrylaw12.FileObjects', WHERE WHAT IT READS IS OF BULK AT MOST 1048576: true; the input reads as it did. -/
def fileObjectsUptoRow : OpenClaim := { program := "ytpjfhbmegabafaa", sum := "676133becbac73d83c88552c7681c80c267bed7116ed6d25311e70772e363af6", func := "almonry/almonrylaw12.FileObjects", spec := "fileObjects", inPlace := ["internal/abi.NoEscape", "internal/bytealg.MakeNoZero"], unfollowed := true, recurses := true, plainKeys := false, apart := false, narrowed := true }
def FileObjectsUptoSaid : Prop := fileObjectsUptoRow.holds Try.pinned (OpenSpec.upto fileObjectsSpec)

/-- 'almonrylaw12.FileForms', WHERE WHAT IT READS IS OF BULK AT MOST 1048576: true; the input reads as it did. -/
def fileFormsUptoRow : OpenClaim := { program := "ytpjfhbmegabafaa", sum := "676133becbac73d83c88552c7681c80c267bed7116ed6d25311e70772e363af6", func := "almonry/almonrylaw12.FileForms", spec := "fileForms", inPlace := ["internal/abi.NoEscape", "internal/bytealg.MakeNoZero"], unfollowed := true, recurses := true, plainKeys := false, apart := false, narrowed := true }
def FileFormsUptoSaid : Prop := fileFormsUptoRow.holds Try.pinned (OpenSpec.upto fileFormsSpec)

end Rows
end Go.Proofs.Ytpjfhbmegabafaa
