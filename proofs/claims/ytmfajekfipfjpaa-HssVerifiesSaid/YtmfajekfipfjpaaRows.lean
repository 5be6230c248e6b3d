/-
  No cell of these rows narrows 'for every input' (looked for: loops, veiled, ifaces, maps, wideKeys, modest, calm, conditions, laid).
  DERIVED. THE GIVEN ROWS OF THIS SEAT. 9 by the template 'for every input the law returns true; each argument reads behind the call as it read before'; 0 by the template 'total and deterministic' (their statements: YtmfajekfipfjpaaTotals.lean).
  GIVEN WITH THE SEED: the statements are not yours to turn. If you find one false, say at which input.
  Laid BY PROGRAM, IN A SANDBOX (cutbox-rows.mjs): the forced cells as the released guide's own fill.sh prints them over the translation 00ccbaaf49cb3ac3… (all of the seat's roots in one cut). By AI agents, Wed Nov 11 2026. No macro, syntax, notation, axiom, sorry.
-/
import Derived.Test.YtmfajekfipfjpaaChecked
import GoSem.Claim
import GoSem.ClaimJoined
import GoSem.ClaimMapViews
import Derived.JoinedTies
import Derived.KernelRfl
namespace Go.Proofs.Ytmfajekfipfjpaa
/- THE CELL 'sum', in the pinned program and in every row, IS THE sha256 OF THE DUMP (.gsa) THAT YtmfajekfipfjpaaProg.lean LOADS. Nothing in Lean hashes anything: it is a label: what it is worth is what the hold of that sum in a sandbox is worth. -/
noncomputable def Try.pinned : Pinned := { name := "ytmfajekfipfjpaa", sum := "00ccbaaf49cb3ac325506204405cb129a91c96516442b72389a29a7a779fc7d6", checked := Try.checked }
namespace Rows
def none {H : Type} : Left H := { results := [], args := [] }

/-- 'almonrylaw5.Lmss': WHATEVER THE INPUT: true; the input reads as it did. -/
def lmssSpec : ChangeSpec := { name := "lmss", fn := fun _ => fun
  | [d1, d2] => { results := [.lit (.bool true)], args := [d1, d2] }
  | _ => none }
def lmssRow : OpenClaim := { program := "ytmfajekfipfjpaa", sum := "00ccbaaf49cb3ac325506204405cb129a91c96516442b72389a29a7a779fc7d6", func := "almonry/almonrylaw5.Lmss", spec := "lmss", inPlace := ["internal/abi.NoEscape"], unfollowed := true, recurses := true, apart := false }
def LmssSaid : Prop := lmssRow.holds Try.pinned (OpenSpec.ofChange lmssSpec)

/-- ITS FALSE NEIGHBOUR: 'it returns false'. Refute it at one input. -/
def lmssWrong : ChangeSpec := { name := "lmss", fn := fun _ => fun
  | [d1, d2] => { results := [.lit (.bool false)], args := [d1, d2] }
  | _ => none }
def LmssWrongFalsely : Prop := lmssRow.holds Try.pinned (OpenSpec.ofChange lmssWrong)

/-- 'almonrylaw5.LmsVerifies': WHATEVER THE INPUT: true; the input reads as it did. -/
def lmsVerifiesSpec : ChangeSpec := { name := "lmsVerifies", fn := fun _ => fun
  | [d1, d2, d3] => { results := [.lit (.bool true)], args := [d1, d2, d3] }
  | _ => none }
def lmsVerifiesRow : OpenClaim := { program := "ytmfajekfipfjpaa", sum := "00ccbaaf49cb3ac325506204405cb129a91c96516442b72389a29a7a779fc7d6", func := "almonry/almonrylaw5.LmsVerifies", spec := "lmsVerifies", inPlace := ["internal/abi.NoEscape"], unfollowed := true, recurses := true, apart := false }
def LmsVerifiesSaid : Prop := lmsVerifiesRow.holds Try.pinned (OpenSpec.ofChange lmsVerifiesSpec)

/-- ITS FALSE NEIGHBOUR: 'it returns false'. Refute it at one input. -/
def lmsVerifiesWrong : ChangeSpec := { name := "lmsVerifies", fn := fun _ => fun
  | [d1, d2, d3] => { results := [.lit (.bool false)], args := [d1, d2, d3] }
  | _ => none }
def LmsVerifiesWrongFalsely : Prop := lmsVerifiesRow.holds Try.pinned (OpenSpec.ofChange lmsVerifiesWrong)

/-- 'almonrylaw5.LmsBack': WHATEVER THE INPUT: true; the input reads as it did. -/
def lmsBackSpec : ChangeSpec := { name := "lmsBack", fn := fun _ => fun
  | [d1, d2, d3] => { results := [.lit (.bool true)], args := [d1, d2, d3] }
  | _ => none }
def lmsBackRow : OpenClaim := { program := "ytmfajekfipfjpaa", sum := "00ccbaaf49cb3ac325506204405cb129a91c96516442b72389a29a7a779fc7d6", func := "almonry/almonrylaw5.LmsBack", spec := "lmsBack", inPlace := ["internal/abi.NoEscape"], unfollowed := true, recurses := true, apart := false }
def LmsBackSaid : Prop := lmsBackRow.holds Try.pinned (OpenSpec.ofChange lmsBackSpec)

/-- ITS FALSE NEIGHBOUR: 'it returns false'. Refute it at one input. -/
def lmsBackWrong : ChangeSpec := { name := "lmsBack", fn := fun _ => fun
  | [d1, d2, d3] => { results := [.lit (.bool false)], args := [d1, d2, d3] }
  | _ => none }
def LmsBackWrongFalsely : Prop := lmsBackRow.holds Try.pinned (OpenSpec.ofChange lmsBackWrong)

/-- 'almonrylaw5.LmsTree': WHATEVER THE INPUT: true; the input reads as it did. -/
def lmsTreeSpec : ChangeSpec := { name := "lmsTree", fn := fun _ => fun
  | [d1, d2] => { results := [.lit (.bool true)], args := [d1, d2] }
  | _ => none }
def lmsTreeRow : OpenClaim := { program := "ytmfajekfipfjpaa", sum := "00ccbaaf49cb3ac325506204405cb129a91c96516442b72389a29a7a779fc7d6", func := "almonry/almonrylaw5.LmsTree", spec := "lmsTree", inPlace := ["internal/abi.NoEscape"], unfollowed := true, recurses := true, apart := false }
def LmsTreeSaid : Prop := lmsTreeRow.holds Try.pinned (OpenSpec.ofChange lmsTreeSpec)

/-- ITS FALSE NEIGHBOUR: 'it returns false'. Refute it at one input. -/
def lmsTreeWrong : ChangeSpec := { name := "lmsTree", fn := fun _ => fun
  | [d1, d2] => { results := [.lit (.bool false)], args := [d1, d2] }
  | _ => none }
def LmsTreeWrongFalsely : Prop := lmsTreeRow.holds Try.pinned (OpenSpec.ofChange lmsTreeWrong)

/-- 'almonrylaw5.LmsForms': WHATEVER THE INPUT: true; the input reads as it did. -/
def lmsFormsSpec : ChangeSpec := { name := "lmsForms", fn := fun _ => fun
  | [d1, d2] => { results := [.lit (.bool true)], args := [d1, d2] }
  | _ => none }
def lmsFormsRow : OpenClaim := { program := "ytmfajekfipfjpaa", sum := "00ccbaaf49cb3ac325506204405cb129a91c96516442b72389a29a7a779fc7d6", func := "almonry/almonrylaw5.LmsForms", spec := "lmsForms", inPlace := ["internal/abi.NoEscape"], unfollowed := true, recurses := true, apart := false }
def LmsFormsSaid : Prop := lmsFormsRow.holds Try.pinned (OpenSpec.ofChange lmsFormsSpec)

/-- ITS FALSE NEIGHBOUR: 'it returns false'. Refute it at one input. -/
def lmsFormsWrong : ChangeSpec := { name := "lmsForms", fn := fun _ => fun
  | [d1, d2] => { results := [.lit (.bool false)], args := [d1, d2] }
  | _ => none }
def LmsFormsWrongFalsely : Prop := lmsFormsRow.holds Try.pinned (OpenSpec.ofChange lmsFormsWrong)

/-- 'almonrylaw6.HssVerifies': WHATEVER THE INPUT: true; the input reads as it did. -/
def hssVerifiesSpec : ChangeSpec := { name := "hssVerifies", fn := fun _ => fun
  | [d1, d2, d3] => { results := [.lit (.bool true)], args := [d1, d2, d3] }
  | _ => none }
def hssVerifiesRow : OpenClaim := { program := "ytmfajekfipfjpaa", sum := "00ccbaaf49cb3ac325506204405cb129a91c96516442b72389a29a7a779fc7d6", func := "almonry/almonrylaw6.HssVerifies", spec := "hssVerifies", inPlace := ["internal/abi.NoEscape"], unfollowed := true, recurses := true, apart := false }
def HssVerifiesSaid : Prop := hssVerifiesRow.holds Try.pinned (OpenSpec.ofChange hssVerifiesSpec)

/-- ITS FALSE NEIGHBOUR: 'it returns false'. Refute it at one input. -/
def hssVerifiesWrong : ChangeSpec := { name := "hssVerifies", fn := fun _ => fun
  | [d1, d2, d3] => { results := [.lit (.bool false)], args := [d1, d2, d3] }
  | _ => none }
def HssVerifiesWrongFalsely : Prop := hssVerifiesRow.holds Try.pinned (OpenSpec.ofChange hssVerifiesWrong)

/-- 'almonrylaw6.HssBack': WHATEVER THE INPUT: true; the input reads as it did. -/
def hssBackSpec : ChangeSpec := { name := "hssBack", fn := fun _ => fun
  | [d1, d2] => { results := [.lit (.bool true)], args := [d1, d2] }
  | _ => none }
def hssBackRow : OpenClaim := { program := "ytmfajekfipfjpaa", sum := "00ccbaaf49cb3ac325506204405cb129a91c96516442b72389a29a7a779fc7d6", func := "almonry/almonrylaw6.HssBack", spec := "hssBack", inPlace := ["internal/abi.NoEscape"], unfollowed := true, recurses := true, apart := false }
def HssBackSaid : Prop := hssBackRow.holds Try.pinned (OpenSpec.ofChange hssBackSpec)

/-- ITS FALSE NEIGHBOUR: 'it returns false'. Refute it at one input. -/
def hssBackWrong : ChangeSpec := { name := "hssBack", fn := fun _ => fun
  | [d1, d2] => { results := [.lit (.bool false)], args := [d1, d2] }
  | _ => none }
def HssBackWrongFalsely : Prop := hssBackRow.holds Try.pinned (OpenSpec.ofChange hssBackWrong)

/-- 'almonrylaw6.HssParts': WHATEVER THE INPUT: true; the input reads as it did. -/
def hssPartsSpec : ChangeSpec := { name := "hssParts", fn := fun _ => fun
  | [d1, d2, d3] => { results := [.lit (.bool true)], args := [d1, d2, d3] }
  | _ => none }
def hssPartsRow : OpenClaim := { program := "ytmfajekfipfjpaa", sum := "00ccbaaf49cb3ac325506204405cb129a91c96516442b72389a29a7a779fc7d6", func := "almonry/almonrylaw6.HssParts", spec := "hssParts", inPlace := ["internal/abi.NoEscape"], unfollowed := true, recurses := true, apart := false }
def HssPartsSaid : Prop := hssPartsRow.holds Try.pinned (OpenSpec.ofChange hssPartsSpec)

/-- ITS FALSE NEIGHBOUR: 'it returns false'. Refute it at one input. -/
def hssPartsWrong : ChangeSpec := { name := "hssParts", fn := fun _ => fun
  | [d1, d2, d3] => { results := [.lit (.bool false)], args := [d1, d2, d3] }
  | _ => none }
def HssPartsWrongFalsely : Prop := hssPartsRow.holds Try.pinned (OpenSpec.ofChange hssPartsWrong)

/-- 'almonrylaw6.HssForms': WHATEVER THE INPUT: true; the input reads as it did. -/
def hssFormsSpec : ChangeSpec := { name := "hssForms", fn := fun _ => fun
  | [d1, d2] => { results := [.lit (.bool true)], args := [d1, d2] }
  | _ => none }
def hssFormsRow : OpenClaim := { program := "ytmfajekfipfjpaa", sum := "00ccbaaf49cb3ac325506204405cb129a91c96516442b72389a29a7a779fc7d6", func := "almonry/almonrylaw6.HssForms", spec := "hssForms", inPlace := ["internal/abi.NoEscape"], unfollowed := true, recurses := true, apart := false }
def HssFormsSaid : Prop := hssFormsRow.holds Try.pinned (OpenSpec.ofChange hssFormsSpec)

/-- ITS FALSE NEIGHBOUR: 'it returns false'. Refute it at one input. -/
def hssFormsWrong : ChangeSpec := { name := "hssForms", fn := fun _ => fun
  | [d1, d2] => { results := [.lit (.bool false)], args := [d1, d2] }
  | _ => none }
def HssFormsWrongFalsely : Prop := hssFormsRow.holds Try.pinned (OpenSpec.ofChange hssFormsWrong)

/- THE SECOND FORM. 'bulk': how many values and letters a reading holds, each counted each time it is reached (what is shared counts as often as it is met; a slice's spare places count too). A statement '..UptoSaid' is the law's where the arguments, and the package variables that the reading takes, are together of bulk at most 1048576: NARROWER than '..Said'. Prove '..Said' where nothing that the law and all that it calls make is longer than what came in: it says more and counts as full. Else prove '..UptoSaid'. A law counts once. -/
mutual
def uptoBulk {H : Type} : DataW H → Nat
  | .lit (.string bytes) => bytes.length + 1
  | .lit _ => 1
  | .nil => 1
  | .ptr d => uptoBulk d + 1
  | .slice elems spare => uptoBulkAll elems + uptoBulkAll spare + 1
  | .agg parts => uptoBulkAll parts + 1
  | .iface _ d => uptoBulk d + 1
  | .map entries => uptoBulkEntries entries + 1
  | .held _ => 1
def uptoBulkAll {H : Type} : List (DataW H) → Nat
  | [] => 0
  | d :: r => uptoBulk d + uptoBulkAll r
def uptoBulkEntries {H : Type} : List (Lit × DataW H) → Nat
  | [] => 0
  | x :: r => uptoBulkEntry x + uptoBulkEntries r
def uptoBulkEntry {H : Type} : Lit × DataW H → Nat
  | (.string bytes, d) => bytes.length + uptoBulk d + 1
  | (_, d) => uptoBulk d + 1
 end
def uptoSmall : (H : Type) → List (DataW H) → Bool := fun _ ds => decide (uptoBulkAll ds ≤ 1048576)
def OpenSpec.upto (s : _root_.Go.ChangeSpec) : _root_.Go.OpenSpec := { _root_.Go.OpenSpec.ofChange s with cond := some uptoSmall }

/-- 'almonrylaw5.Lmss', WHERE WHAT IT READS IS OF BULK AT MOST 1048576: true; the input reads as it did. -/
def lmssUptoRow : OpenClaim := { program := "ytmfajekfipfjpaa", sum := "00ccbaaf49cb3ac325506204405cb129a91c96516442b72389a29a7a779fc7d6", func := "almonry/almonrylaw5.Lmss", spec := "lmss", inPlace := ["internal/abi.NoEscape"], unfollowed := true, recurses := true, apart := false, narrowed := true }
def LmssUptoSaid : Prop := lmssUptoRow.holds Try.pinned (OpenSpec.upto lmssSpec)

/-- 'almonrylaw5.LmsVerifies', WHERE WHAT IT READS IS OF BULK AT MOST 1048576: true; the input reads as it did. -/
def lmsVerifiesUptoRow : OpenClaim := { program := "ytmfajekfipfjpaa", sum := "00ccbaaf49cb3ac325506204405cb129a91c96516442b72389a29a7a779fc7d6", func := "almonry/almonrylaw5.LmsVerifies", spec := "lmsVerifies", inPlace := ["internal/abi.NoEscape"], unfollowed := true, recurses := true, apart := false, narrowed := true }
def LmsVerifiesUptoSaid : Prop := lmsVerifiesUptoRow.holds Try.pinned (OpenSpec.upto lmsVerifiesSpec)

/-- 'almonrylaw5.LmsBack', WHERE WHAT IT READS IS OF BULK AT MOST 1048576: true; the input reads as it did. -/
def lmsBackUptoRow : OpenClaim := { program := "ytmfajekfipfjpaa", sum := "00ccbaaf49cb3ac325506204405cb129a91c96516442b72389a29a7a779fc7d6", func := "almonry/almonrylaw5.LmsBack", spec := "lmsBack", inPlace := ["internal/abi.NoEscape"], unfollowed := true, recurses := true, apart := false, narrowed := true }
def LmsBackUptoSaid : Prop := lmsBackUptoRow.holds Try.pinned (OpenSpec.upto lmsBackSpec)

/-- 'almonrylaw5.LmsTree', WHERE WHAT IT READS IS OF BULK AT MOST 1048576: true; the input reads as it did. -/
def lmsTreeUptoRow : OpenClaim := { program := "ytmfajekfipfjpaa", sum := "00ccbaaf49cb3ac325506204405cb129a91c96516442b72389a29a7a779fc7d6", func := "almonry/almonrylaw5.LmsTree", spec := "lmsTree", inPlace := ["internal/abi.NoEscape"], unfollowed := true, recurses := true, apart := false, narrowed := true }
def LmsTreeUptoSaid : Prop := lmsTreeUptoRow.holds Try.pinned (OpenSpec.upto lmsTreeSpec)

/-- 'almonrylaw5.LmsForms', WHERE WHAT IT READS IS OF BULK AT MOST 1048576: true; the input reads as it did. -/
def lmsFormsUptoRow : OpenClaim := { program := "ytmfajekfipfjpaa", sum := "00ccbaaf49cb3ac325506204405cb129a91c96516442b72389a29a7a779fc7d6", func := "almonry/almonrylaw5.LmsForms", spec := "lmsForms", inPlace := ["internal/abi.NoEscape"], unfollowed := true, recurses := true, apart := false, narrowed := true }
def LmsFormsUptoSaid : Prop := lmsFormsUptoRow.holds Try.pinned (OpenSpec.upto lmsFormsSpec)

/-- 'almonrylaw6.HssVerifies', WHERE WHAT IT READS IS OF BULK AT MOST 1048576: true; the input reads as it did. -/
def hssVerifiesUptoRow : OpenClaim := { program := "ytmfajekfipfjpaa", sum := "00ccbaaf49cb3ac325506204405cb129a91c96516442b72389a29a7a779fc7d6", func := "almonry/almonrylaw6.HssVerifies", spec := "hssVerifies", inPlace := ["internal/abi.NoEscape"], unfollowed := true, recurses := true, apart := false, narrowed := true }
def HssVerifiesUptoSaid : Prop := hssVerifiesUptoRow.holds Try.pinned (OpenSpec.upto hssVerifiesSpec)

/-- 'almonrylaw6.HssBack', WHERE WHAT IT READS IS OF BULK AT MOST 1048576: true; the input reads as it did. -/
def hssBackUptoRow : OpenClaim := { program := "ytmfajekfipfjpaa", sum := "00ccbaaf49cb3ac325506204405cb129a91c96516442b72389a29a7a779fc7d6", func := "almonry/almonrylaw6.HssBack", spec := "hssBack", inPlace := ["internal/abi.NoEscape"], unfollowed := true, recurses := true, apart := false, narrowed := true }
def HssBackUptoSaid : Prop := hssBackUptoRow.holds Try.pinned (OpenSpec.upto hssBackSpec)

/-- 'almonrylaw6.HssParts', WHERE WHAT IT READS IS OF BULK AT MOST 1048576: true; the input reads as it did. -/
def hssPartsUptoRow : OpenClaim := { program := "ytmfajekfipfjpaa", sum := "00ccbaaf49cb3ac325506204405cb129a91c96516442b72389a29a7a779fc7d6", func := "almonry/almonrylaw6.HssParts", spec := "hssParts", inPlace := ["internal/abi.NoEscape"], unfollowed := true, recurses := true, apart := false, narrowed := true }
def HssPartsUptoSaid : Prop := hssPartsUptoRow.holds Try.pinned (OpenSpec.upto hssPartsSpec)

/-- 'almonrylaw6.HssForms', WHERE WHAT IT READS IS OF BULK AT MOST 1048576: true; the input reads as it did. -/
def hssFormsUptoRow : OpenClaim := { program := "ytmfajekfipfjpaa", sum := "00ccbaaf49cb3ac325506204405cb129a91c96516442b72389a29a7a779fc7d6", func := "almonry/almonrylaw6.HssForms", spec := "hssForms", inPlace := ["internal/abi.NoEscape"], unfollowed := true, recurses := true, apart := false, narrowed := true }
def HssFormsUptoSaid : Prop := hssFormsUptoRow.holds Try.pinned (OpenSpec.upto hssFormsSpec)

end Rows
end Go.Proofs.Ytmfajekfipfjpaa
