/-
  No cell of these rows narrows 'for every input' (looked for: loops, veiled, ifaces, maps, wideKeys, modest, calm, conditions, laid).
  DERIVED. THE GIVEN ROWS OF THIS SEAT. 7 by the template 'for every input the law returns true; each argument reads behind the call as it read before'; 0 by the template 'total and deterministic' (their statements: YtncfgdhofefkbaaTotals.lean).
  GIVEN WITH THE SEED: the statements are not yours to turn. If you find one false, say at which input.
  Laid BY PROGRAM, IN A SANDBOX (cutbox-rows.mjs): the forced cells as the released guide's own fill.sh prints them over the translation 517b63b346209399… (all of the seat's roots in one cut). By AI agents, Wed Nov 11 2026. No macro, syntax, notation, axiom, sorry.
-/
import Derived.Test.YtncfgdhofefkbaaChecked
import GoSem.Claim
import GoSem.ClaimJoined
import GoSem.ClaimMapViews
import Derived.JoinedTies
import Derived.KernelRfl
namespace Go.Proofs.Ytncfgdhofefkbaa
/- THE CELL 'sum', in the pinned program and in every row, IS THE sha256 OF THE DUMP (.gsa) THAT YtncfgdhofefkbaaProg.lean LOADS. Nothing in Lean hashes anything: it is a label: what it is worth is what the hold of that sum in a sandbox is worth. -/
noncomputable def Try.pinned : Pinned := { name := "ytncfgdhofefkbaa", sum := "517b63b3462093997f641c206bfdaab325299f17fdf1ea31f4930286128d80e9", checked := Try.checked }
namespace Rows
def none {H : Type} : Left H := { results := [], args := [] }

/-- 'almonrylaw1.Shas': WHATEVER THE INPUT: true; the input reads as it did. -/
def shasSpec : ChangeSpec := { name := "shas", fn := fun _ => fun
  | [d1, d2] => { results := [.lit (.bool true)], args := [d1, d2] }
  | _ => none }
def shasRow : OpenClaim := { program := "ytncfgdhofefkbaa", sum := "517b63b3462093997f641c206bfdaab325299f17fdf1ea31f4930286128d80e9", func := "almonry/almonrylaw1.Shas", spec := "shas", apart := false }
def ShasSaid : Prop := shasRow.holds Try.pinned (OpenSpec.ofChange shasSpec)

/-- ITS FALSE NEIGHBOUR: 'it returns false'. Refute it at one input. -/
def shasWrong : ChangeSpec := { name := "shas", fn := fun _ => fun
  | [d1, d2] => { results := [.lit (.bool false)], args := [d1, d2] }
  | _ => none }
def ShasWrongFalsely : Prop := shasRow.holds Try.pinned (OpenSpec.ofChange shasWrong)

/-- 'almonrylaw1.ShaParts': WHATEVER THE INPUT: true; the input reads as it did. -/
def shaPartsSpec : ChangeSpec := { name := "shaParts", fn := fun _ => fun
  | [d1, d2] => { results := [.lit (.bool true)], args := [d1, d2] }
  | _ => none }
def shaPartsRow : OpenClaim := { program := "ytncfgdhofefkbaa", sum := "517b63b3462093997f641c206bfdaab325299f17fdf1ea31f4930286128d80e9", func := "almonry/almonrylaw1.ShaParts", spec := "shaParts", apart := false }
def ShaPartsSaid : Prop := shaPartsRow.holds Try.pinned (OpenSpec.ofChange shaPartsSpec)

/-- ITS FALSE NEIGHBOUR: 'it returns false'. Refute it at one input. -/
def shaPartsWrong : ChangeSpec := { name := "shaParts", fn := fun _ => fun
  | [d1, d2] => { results := [.lit (.bool false)], args := [d1, d2] }
  | _ => none }
def ShaPartsWrongFalsely : Prop := shaPartsRow.holds Try.pinned (OpenSpec.ofChange shaPartsWrong)

/-- 'almonrylaw1.ShaKnown': WHATEVER THE INPUT: true; the input reads as it did. -/
def shaKnownSpec : ChangeSpec := { name := "shaKnown", fn := fun _ => fun
  | [] => { results := [.lit (.bool true)], args := [] }
  | _ => none }
def shaKnownRow : OpenClaim := { program := "ytncfgdhofefkbaa", sum := "517b63b3462093997f641c206bfdaab325299f17fdf1ea31f4930286128d80e9", func := "almonry/almonrylaw1.ShaKnown", spec := "shaKnown", apart := false }
def ShaKnownSaid : Prop := shaKnownRow.holds Try.pinned (OpenSpec.ofChange shaKnownSpec)

/-- ITS FALSE NEIGHBOUR: 'it returns false'. Refute it at one input. -/
def shaKnownWrong : ChangeSpec := { name := "shaKnown", fn := fun _ => fun
  | [] => { results := [.lit (.bool false)], args := [] }
  | _ => none }
def ShaKnownWrongFalsely : Prop := shaKnownRow.holds Try.pinned (OpenSpec.ofChange shaKnownWrong)

/-- 'almonrylaw1.ShaTwins': WHATEVER THE INPUT: true; the input reads as it did. -/
def shaTwinsSpec : ChangeSpec := { name := "shaTwins", fn := fun _ => fun
  | [d1, d2, d3] => { results := [.lit (.bool true)], args := [d1, d2, d3] }
  | _ => none }
def shaTwinsRow : OpenClaim := { program := "ytncfgdhofefkbaa", sum := "517b63b3462093997f641c206bfdaab325299f17fdf1ea31f4930286128d80e9", func := "almonry/almonrylaw1.ShaTwins", spec := "shaTwins", apart := false }
def ShaTwinsSaid : Prop := shaTwinsRow.holds Try.pinned (OpenSpec.ofChange shaTwinsSpec)

/-- ITS FALSE NEIGHBOUR: 'it returns false'. Refute it at one input. -/
def shaTwinsWrong : ChangeSpec := { name := "shaTwins", fn := fun _ => fun
  | [d1, d2, d3] => { results := [.lit (.bool false)], args := [d1, d2, d3] }
  | _ => none }
def ShaTwinsWrongFalsely : Prop := shaTwinsRow.holds Try.pinned (OpenSpec.ofChange shaTwinsWrong)

/-- 'almonrylaw2.Tags': WHATEVER THE INPUT: true; the input reads as it did. -/
def tagsSpec : ChangeSpec := { name := "tags", fn := fun _ => fun
  | [d1, d2] => { results := [.lit (.bool true)], args := [d1, d2] }
  | _ => none }
def tagsRow : OpenClaim := { program := "ytncfgdhofefkbaa", sum := "517b63b3462093997f641c206bfdaab325299f17fdf1ea31f4930286128d80e9", func := "almonry/almonrylaw2.Tags", spec := "tags", unfollowed := true, recurses := true, apart := false }
def TagsSaid : Prop := tagsRow.holds Try.pinned (OpenSpec.ofChange tagsSpec)

/-- ITS FALSE NEIGHBOUR: 'it returns false'. Refute it at one input. -/
def tagsWrong : ChangeSpec := { name := "tags", fn := fun _ => fun
  | [d1, d2] => { results := [.lit (.bool false)], args := [d1, d2] }
  | _ => none }
def TagsWrongFalsely : Prop := tagsRow.holds Try.pinned (OpenSpec.ofChange tagsWrong)

/-- 'almonrylaw2.TagForms': WHATEVER THE INPUT: true; the input reads as it did. -/
def tagFormsSpec : ChangeSpec := { name := "tagForms", fn := fun _ => fun
  | [d1, d2] => { results := [.lit (.bool true)], args := [d1, d2] }
  | _ => none }
def tagFormsRow : OpenClaim := { program := "ytncfgdhofefkbaa", sum := "517b63b3462093997f641c206bfdaab325299f17fdf1ea31f4930286128d80e9", func := "almonry/almonrylaw2.TagForms", spec := "tagForms", unfollowed := true, recurses := true, apart := false }
def TagFormsSaid : Prop := tagFormsRow.holds Try.pinned (OpenSpec.ofChange tagFormsSpec)

/-- ITS FALSE NEIGHBOUR: 'it returns false'. Refute it at one input. -/
def tagFormsWrong : ChangeSpec := { name := "tagForms", fn := fun _ => fun
  | [d1, d2] => { results := [.lit (.bool false)], args := [d1, d2] }
  | _ => none }
def TagFormsWrongFalsely : Prop := tagFormsRow.holds Try.pinned (OpenSpec.ofChange tagFormsWrong)

/-- 'almonrylaw2.TagMade': WHATEVER THE INPUT: true; the input reads as it did. -/
def tagMadeSpec : ChangeSpec := { name := "tagMade", fn := fun _ => fun
  | [d1, d2] => { results := [.lit (.bool true)], args := [d1, d2] }
  | _ => none }
def tagMadeRow : OpenClaim := { program := "ytncfgdhofefkbaa", sum := "517b63b3462093997f641c206bfdaab325299f17fdf1ea31f4930286128d80e9", func := "almonry/almonrylaw2.TagMade", spec := "tagMade", unfollowed := true, recurses := true, apart := false }
def TagMadeSaid : Prop := tagMadeRow.holds Try.pinned (OpenSpec.ofChange tagMadeSpec)

/-- ITS FALSE NEIGHBOUR: 'it returns false'. Refute it at one input. -/
def tagMadeWrong : ChangeSpec := { name := "tagMade", fn := fun _ => fun
  | [d1, d2] => { results := [.lit (.bool false)], args := [d1, d2] }
  | _ => none }
def TagMadeWrongFalsely : Prop := tagMadeRow.holds Try.pinned (OpenSpec.ofChange tagMadeWrong)

/- THE SECOND FORM. 'bulk': how many values and letters a reading holds, each counted each time it is reached (what is shared counts as often as it is met; a slice's spare places count too). A statement '..UptoSaid' is the law's where the arguments, and the package variables that the reading takes, are together of bulk at most 1048576: NARROWER than '..Said'. Prove '..Said' where nothing that the law and all that it calls make is longer than what came in: it says more and counts as full. Else prove '..UptoSaid'. A law counts once. -/
mutual
def uptoBulk {H : Type} : DataW H → Nat
  | .lit (.string bytes) => bytes.length + 1
  | .lit _ => 1
  | .nil => 1
  | .ptr d => uptoBulk d + 1
  | .slice elems spare => uptoBulkAll elems + uptoBulkAll spare + 1
  | .agg parts => uptoBulkAll parts + 1
  | .iface _ d => uptoBulk d + 1
  | .map entries => uptoBulkEntries entries + 1
  | .held _ => 1
def uptoBulkAll {H : Type} : List (DataW H) → Nat
  | [] => 0
  | d :: r => uptoBulk d + uptoBulkAll r
def uptoBulkEntries {H : Type} : List (Lit × DataW H) → Nat
  | [] => 0
  | x :: r => uptoBulkEntry x + uptoBulkEntries r
def uptoBulkEntry {H : Type} : Lit × DataW H → Nat
  | (.string bytes, d) => bytes.length + uptoBulk d + 1
  | (_, d) => uptoBulk d + 1
 end
def uptoSmall : (H : Type) → List (DataW H) → Bool := fun _ ds => decide (uptoBulkAll ds ≤ 1048576)
def OpenSpec.upto (s : _root_.Go.ChangeSpec) : _root_.Go.OpenSpec := { _root_.Go.OpenSpec.ofChange s with cond := some uptoSmall }

/-- 'almonrylaw1.Shas', WHERE WHAT IT READS IS OF BULK AT MOST 1048576: true; the input reads as it did. -/
def shasUptoRow : OpenClaim := { program := "ytncfgdhofefkbaa", sum := "517b63b3462093997f641c206bfdaab325299f17fdf1ea31f4930286128d80e9", func := "almonry/almonrylaw1.Shas", spec := "shas", apart := false, narrowed := true }
def ShasUptoSaid : Prop := shasUptoRow.holds Try.pinned (OpenSpec.upto shasSpec)

/-- 'almonrylaw1.ShaParts', WHERE WHAT IT READS IS OF BULK AT MOST 1048576: true; the input reads as it did. -/
def shaPartsUptoRow : OpenClaim := { program := "ytncfgdhofefkbaa", sum := "517b63b3462093997f641c206bfdaab325299f17fdf1ea31f4930286128d80e9", func := "almonry/almonrylaw1.ShaParts", spec := "shaParts", apart := false, narrowed := true }
def ShaPartsUptoSaid : Prop := shaPartsUptoRow.holds Try.pinned (OpenSpec.upto shaPartsSpec)

/-- 'almonrylaw1.ShaKnown', WHERE WHAT IT READS IS OF BULK AT MOST 1048576: true; the input reads as it did. -/
def shaKnownUptoRow : OpenClaim := { program := "ytncfgdhofefkbaa", sum := "517b63b3462093997f641c206bfdaab325299f17fdf1ea31f4930286128d80e9", func := "almonry/almonrylaw1.ShaKnown", spec := "shaKnown", apart := false, narrowed := true }
def ShaKnownUptoSaid : Prop := shaKnownUptoRow.holds Try.pinned (OpenSpec.upto shaKnownSpec)

/-- 'almonrylaw1.ShaTwins', WHERE WHAT IT READS IS OF BULK AT MOST 1048576: true; the input reads as it did. -/
def shaTwinsUptoRow : OpenClaim := { program := "ytncfgdhofefkbaa", sum := "517b63b3462093997f641c206bfdaab325299f17fdf1ea31f4930286128d80e9", func := "almonry/almonrylaw1.ShaTwins", spec := "shaTwins", apart := false, narrowed := true }
def ShaTwinsUptoSaid : Prop := shaTwinsUptoRow.holds Try.pinned (OpenSpec.upto shaTwinsSpec)

/-- 'almonrylaw2.Tags', WHERE WHAT IT READS IS OF BULK AT MOST 1048576: true; the input reads as it did. -/
def tagsUptoRow : OpenClaim := { program := "ytncfgdhofefkbaa", sum := "517b63b3462093997f641c206bfdaab325299f17fdf1ea31f4930286128d80e9", func := "almonry/almonrylaw2.Tags", spec := "tags", unfollowed := true, recurses := true, apart := false, narrowed := true }
def TagsUptoSaid : Prop := tagsUptoRow.holds Try.pinned (OpenSpec.upto tagsSpec)

/-- 'almonrylaw2.TagForms', WHERE WHAT IT READS IS OF BULK AT MOST 1048576: true; the input reads as it did. -/
def tagFormsUptoRow : OpenClaim := { program := "ytncfgdhofefkbaa", sum := "517b63b3462093997f641c206bfdaab325299f17fdf1ea31f4930286128d80e9", func := "almonry/almonrylaw2.TagForms", spec := "tagForms", unfollowed := true, recurses := true, apart := false, narrowed := true }
def TagFormsUptoSaid : Prop := tagFormsUptoRow.holds Try.pinned (OpenSpec.upto tagFormsSpec)

/-- 'almonrylaw2.TagMade', WHERE WHAT IT READS IS OF BULK AT MOST 1048576: true; the input reads as it did. -/
def tagMadeUptoRow : OpenClaim := { program := "ytncfgdhofefkbaa", sum := "517b63b3462093997f641c206bfdaab325299f17fdf1ea31f4930286128d80e9", func := "almonry/almonrylaw2.TagMade", spec := "tagMade", unfollowed := true, recurses := true, apart := false, narrowed := true }
def TagMadeUptoSaid : Prop := tagMadeUptoRow.holds Try.pinned (OpenSpec.upto tagMadeSpec)

end Rows
end Go.Proofs.Ytncfgdhofefkbaa
