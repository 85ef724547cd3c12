/-
  No cell of these rows narrows 'for every input' (looked for: loops, veiled, ifaces, maps, wideKeys, modest, calm, conditions, laid).
  DERIVED. THE GIVEN ROWS OF THIS SEAT. 12 by the template 'for every input the law returns true; each argument reads behind the call as it read before'; 0 by the template 'total and deterministic' (their statements: YtoabohllphoioaaTotals.lean).
  GIVEN WITH THE SEED: the statements are not yours to turn. If you find one false, say at which input.
  Laid BY PROGRAM, IN A SANDBOX (cutbox-rows.mjs): the forced cells as the released guide's own fill.sh prints them over the translation f32be7b113446d46… (all of the seat's roots in one cut). By AI agents, Wed Nov 11 2026. No macro, syntax, notation, axiom, sorry.
-/
import Derived.Test.YtoabohllphoioaaChecked
import GoSem.Claim
import GoSem.ClaimJoined
import GoSem.ClaimMapViews
import Derived.JoinedTies
import Derived.KernelRfl
namespace Go.Proofs.Ytoabohllphoioaa
/- THE CELL 'sum', in the pinned program and in every row, IS THE sha256 OF THE DUMP (.gsa) THAT YtoabohllphoioaaProg.lean LOADS. Nothing in Lean hashes anything: it is a label: what it is worth is what the hold of that sum in a sandbox is worth. -/
noncomputable def Try.pinned : Pinned := { name := "ytoabohllphoioaa", sum := "f32be7b113446d46f6742391d86103bae72d8e21eb457000690847f337e4dba5", checked := Try.checked }
namespace Rows
def none {H : Type} : Left H := { results := [], args := [] }

/-- 'laws.FnScans': WHATEVER THE INPUT: true; the input reads as it did. -/
def fnScansSpec : ChangeSpec := { name := "fnScans", fn := fun _ => fun
  | [d] => { results := [.lit (.bool true)], args := [d] }
  | _ => none }
def fnScansRow : OpenClaim := { program := "ytoabohllphoioaa", sum := "f32be7b113446d46f6742391d86103bae72d8e21eb457000690847f337e4dba5", func := "loop.example/g00623/laws.FnScans", spec := "fnScans", unfollowed := true, recurses := true, apart := false }
def FnScansSaid : Prop := fnScansRow.holds Try.pinned (OpenSpec.ofChange fnScansSpec)

/-- ITS FALSE NEIGHBOUR: 'it returns false'. Refute it at one input. -/
def fnScansWrong : ChangeSpec := { name := "fnScans", fn := fun _ => fun
  | [d] => { results := [.lit (.bool false)], args := [d] }
  | _ => none }
def FnScansWrongFalsely : Prop := fnScansRow.holds Try.pinned (OpenSpec.ofChange fnScansWrong)

/-- 'laws.FnExactPlacesFault': WHATEVER THE INPUT: true; the input reads as it did. -/
def fnExactPlacesFaultSpec : ChangeSpec := { name := "fnExactPlacesFault", fn := fun _ => fun
  | [d] => { results := [.lit (.bool true)], args := [d] }
  | _ => none }
def fnExactPlacesFaultRow : OpenClaim := { program := "ytoabohllphoioaa", sum := "f32be7b113446d46f6742391d86103bae72d8e21eb457000690847f337e4dba5", func := "loop.example/g00623/laws.FnExactPlacesFault", spec := "fnExactPlacesFault", unfollowed := true, recurses := true, apart := false }
def FnExactPlacesFaultSaid : Prop := fnExactPlacesFaultRow.holds Try.pinned (OpenSpec.ofChange fnExactPlacesFaultSpec)

/-- ITS FALSE NEIGHBOUR: 'it returns false'. Refute it at one input. -/
def fnExactPlacesFaultWrong : ChangeSpec := { name := "fnExactPlacesFault", fn := fun _ => fun
  | [d] => { results := [.lit (.bool false)], args := [d] }
  | _ => none }
def FnExactPlacesFaultWrongFalsely : Prop := fnExactPlacesFaultRow.holds Try.pinned (OpenSpec.ofChange fnExactPlacesFaultWrong)

/-- 'laws.FnExactRowsIn': WHATEVER THE INPUT: true; the input reads as it did. -/
def fnExactRowsInSpec : ChangeSpec := { name := "fnExactRowsIn", fn := fun _ => fun
  | [d] => { results := [.lit (.bool true)], args := [d] }
  | _ => none }
def fnExactRowsInRow : OpenClaim := { program := "ytoabohllphoioaa", sum := "f32be7b113446d46f6742391d86103bae72d8e21eb457000690847f337e4dba5", func := "loop.example/g00623/laws.FnExactRowsIn", spec := "fnExactRowsIn", unfollowed := true, recurses := true, apart := false }
def FnExactRowsInSaid : Prop := fnExactRowsInRow.holds Try.pinned (OpenSpec.ofChange fnExactRowsInSpec)

/-- ITS FALSE NEIGHBOUR: 'it returns false'. Refute it at one input. -/
def fnExactRowsInWrong : ChangeSpec := { name := "fnExactRowsIn", fn := fun _ => fun
  | [d] => { results := [.lit (.bool false)], args := [d] }
  | _ => none }
def FnExactRowsInWrongFalsely : Prop := fnExactRowsInRow.holds Try.pinned (OpenSpec.ofChange fnExactRowsInWrong)

/-- 'laws.FnExactWritePlace': WHATEVER THE INPUT: true; the input reads as it did. -/
def fnExactWritePlaceSpec : ChangeSpec := { name := "fnExactWritePlace", fn := fun _ => fun
  | [d1, d2, d3] => { results := [.lit (.bool true)], args := [d1, d2, d3] }
  | _ => none }
def fnExactWritePlaceRow : OpenClaim := { program := "ytoabohllphoioaa", sum := "f32be7b113446d46f6742391d86103bae72d8e21eb457000690847f337e4dba5", func := "loop.example/g00623/laws.FnExactWritePlace", spec := "fnExactWritePlace", unfollowed := true, recurses := true, apart := false }
def FnExactWritePlaceSaid : Prop := fnExactWritePlaceRow.holds Try.pinned (OpenSpec.ofChange fnExactWritePlaceSpec)

/-- ITS FALSE NEIGHBOUR: 'it returns false'. Refute it at one input. -/
def fnExactWritePlaceWrong : ChangeSpec := { name := "fnExactWritePlace", fn := fun _ => fun
  | [d1, d2, d3] => { results := [.lit (.bool false)], args := [d1, d2, d3] }
  | _ => none }
def FnExactWritePlaceWrongFalsely : Prop := fnExactWritePlaceRow.holds Try.pinned (OpenSpec.ofChange fnExactWritePlaceWrong)

/-- 'laws.FnExactScanPlaces': WHATEVER THE INPUT: true; the input reads as it did. -/
def fnExactScanPlacesSpec : ChangeSpec := { name := "fnExactScanPlaces", fn := fun _ => fun
  | [d1, d2, d3] => { results := [.lit (.bool true)], args := [d1, d2, d3] }
  | _ => none }
def fnExactScanPlacesRow : OpenClaim := { program := "ytoabohllphoioaa", sum := "f32be7b113446d46f6742391d86103bae72d8e21eb457000690847f337e4dba5", func := "loop.example/g00623/laws.FnExactScanPlaces", spec := "fnExactScanPlaces", unfollowed := true, recurses := true, apart := false }
def FnExactScanPlacesSaid : Prop := fnExactScanPlacesRow.holds Try.pinned (OpenSpec.ofChange fnExactScanPlacesSpec)

/-- ITS FALSE NEIGHBOUR: 'it returns false'. Refute it at one input. -/
def fnExactScanPlacesWrong : ChangeSpec := { name := "fnExactScanPlaces", fn := fun _ => fun
  | [d1, d2, d3] => { results := [.lit (.bool false)], args := [d1, d2, d3] }
  | _ => none }
def FnExactScanPlacesWrongFalsely : Prop := fnExactScanPlacesRow.holds Try.pinned (OpenSpec.ofChange fnExactScanPlacesWrong)

/-- 'laws.FnExactPartOf': WHATEVER THE INPUT: true; the input reads as it did. -/
def fnExactPartOfSpec : ChangeSpec := { name := "fnExactPartOf", fn := fun _ => fun
  | [d1, d2] => { results := [.lit (.bool true)], args := [d1, d2] }
  | _ => none }
def fnExactPartOfRow : OpenClaim := { program := "ytoabohllphoioaa", sum := "f32be7b113446d46f6742391d86103bae72d8e21eb457000690847f337e4dba5", func := "loop.example/g00623/laws.FnExactPartOf", spec := "fnExactPartOf", apart := false }
def FnExactPartOfSaid : Prop := fnExactPartOfRow.holds Try.pinned (OpenSpec.ofChange fnExactPartOfSpec)

/-- ITS FALSE NEIGHBOUR: 'it returns false'. Refute it at one input. -/
def fnExactPartOfWrong : ChangeSpec := { name := "fnExactPartOf", fn := fun _ => fun
  | [d1, d2] => { results := [.lit (.bool false)], args := [d1, d2] }
  | _ => none }
def FnExactPartOfWrongFalsely : Prop := fnExactPartOfRow.holds Try.pinned (OpenSpec.ofChange fnExactPartOfWrong)

/-- 'laws.FnExactPartsFault': WHATEVER THE INPUT: true; the input reads as it did. -/
def fnExactPartsFaultSpec : ChangeSpec := { name := "fnExactPartsFault", fn := fun _ => fun
  | [d] => { results := [.lit (.bool true)], args := [d] }
  | _ => none }
def fnExactPartsFaultRow : OpenClaim := { program := "ytoabohllphoioaa", sum := "f32be7b113446d46f6742391d86103bae72d8e21eb457000690847f337e4dba5", func := "loop.example/g00623/laws.FnExactPartsFault", spec := "fnExactPartsFault", unfollowed := true, recurses := true, apart := false }
def FnExactPartsFaultSaid : Prop := fnExactPartsFaultRow.holds Try.pinned (OpenSpec.ofChange fnExactPartsFaultSpec)

/-- ITS FALSE NEIGHBOUR: 'it returns false'. Refute it at one input. -/
def fnExactPartsFaultWrong : ChangeSpec := { name := "fnExactPartsFault", fn := fun _ => fun
  | [d] => { results := [.lit (.bool false)], args := [d] }
  | _ => none }
def FnExactPartsFaultWrongFalsely : Prop := fnExactPartsFaultRow.holds Try.pinned (OpenSpec.ofChange fnExactPartsFaultWrong)

/-- 'laws.FnExactPartsFrom': WHATEVER THE INPUT: true; the input reads as it did. -/
def fnExactPartsFromSpec : ChangeSpec := { name := "fnExactPartsFrom", fn := fun _ => fun
  | [d1, d2] => { results := [.lit (.bool true)], args := [d1, d2] }
  | _ => none }
def fnExactPartsFromRow : OpenClaim := { program := "ytoabohllphoioaa", sum := "f32be7b113446d46f6742391d86103bae72d8e21eb457000690847f337e4dba5", func := "loop.example/g00623/laws.FnExactPartsFrom", spec := "fnExactPartsFrom", unfollowed := true, recurses := true, apart := false }
def FnExactPartsFromSaid : Prop := fnExactPartsFromRow.holds Try.pinned (OpenSpec.ofChange fnExactPartsFromSpec)

/-- ITS FALSE NEIGHBOUR: 'it returns false'. Refute it at one input. -/
def fnExactPartsFromWrong : ChangeSpec := { name := "fnExactPartsFrom", fn := fun _ => fun
  | [d1, d2] => { results := [.lit (.bool false)], args := [d1, d2] }
  | _ => none }
def FnExactPartsFromWrongFalsely : Prop := fnExactPartsFromRow.holds Try.pinned (OpenSpec.ofChange fnExactPartsFromWrong)

/-- 'laws.FnExactRowsOf': WHATEVER THE INPUT: true; the input reads as it did. -/
def fnExactRowsOfSpec : ChangeSpec := { name := "fnExactRowsOf", fn := fun _ => fun
  | [d] => { results := [.lit (.bool true)], args := [d] }
  | _ => none }
def fnExactRowsOfRow : OpenClaim := { program := "ytoabohllphoioaa", sum := "f32be7b113446d46f6742391d86103bae72d8e21eb457000690847f337e4dba5", func := "loop.example/g00623/laws.FnExactRowsOf", spec := "fnExactRowsOf", unfollowed := true, recurses := true, apart := false }
def FnExactRowsOfSaid : Prop := fnExactRowsOfRow.holds Try.pinned (OpenSpec.ofChange fnExactRowsOfSpec)

/-- ITS FALSE NEIGHBOUR: 'it returns false'. Refute it at one input. -/
def fnExactRowsOfWrong : ChangeSpec := { name := "fnExactRowsOf", fn := fun _ => fun
  | [d] => { results := [.lit (.bool false)], args := [d] }
  | _ => none }
def FnExactRowsOfWrongFalsely : Prop := fnExactRowsOfRow.holds Try.pinned (OpenSpec.ofChange fnExactRowsOfWrong)

/-- 'laws.FnExactWritePart': WHATEVER THE INPUT: true; the input reads as it did. -/
def fnExactWritePartSpec : ChangeSpec := { name := "fnExactWritePart", fn := fun _ => fun
  | [d1, d2, d3] => { results := [.lit (.bool true)], args := [d1, d2, d3] }
  | _ => none }
def fnExactWritePartRow : OpenClaim := { program := "ytoabohllphoioaa", sum := "f32be7b113446d46f6742391d86103bae72d8e21eb457000690847f337e4dba5", func := "loop.example/g00623/laws.FnExactWritePart", spec := "fnExactWritePart", unfollowed := true, recurses := true, apart := false }
def FnExactWritePartSaid : Prop := fnExactWritePartRow.holds Try.pinned (OpenSpec.ofChange fnExactWritePartSpec)

/-- ITS FALSE NEIGHBOUR: 'it returns false'. Refute it at one input. -/
def fnExactWritePartWrong : ChangeSpec := { name := "fnExactWritePart", fn := fun _ => fun
  | [d1, d2, d3] => { results := [.lit (.bool false)], args := [d1, d2, d3] }
  | _ => none }
def FnExactWritePartWrongFalsely : Prop := fnExactWritePartRow.holds Try.pinned (OpenSpec.ofChange fnExactWritePartWrong)

/-- 'laws.FnExactSameParts': WHATEVER THE INPUT: true; the input reads as it did. -/
def fnExactSamePartsSpec : ChangeSpec := { name := "fnExactSameParts", fn := fun _ => fun
  | [d1, d2] => { results := [.lit (.bool true)], args := [d1, d2] }
  | _ => none }
def fnExactSamePartsRow : OpenClaim := { program := "ytoabohllphoioaa", sum := "f32be7b113446d46f6742391d86103bae72d8e21eb457000690847f337e4dba5", func := "loop.example/g00623/laws.FnExactSameParts", spec := "fnExactSameParts", unfollowed := true, recurses := true, apart := false }
def FnExactSamePartsSaid : Prop := fnExactSamePartsRow.holds Try.pinned (OpenSpec.ofChange fnExactSamePartsSpec)

/-- ITS FALSE NEIGHBOUR: 'it returns false'. Refute it at one input. -/
def fnExactSamePartsWrong : ChangeSpec := { name := "fnExactSameParts", fn := fun _ => fun
  | [d1, d2] => { results := [.lit (.bool false)], args := [d1, d2] }
  | _ => none }
def FnExactSamePartsWrongFalsely : Prop := fnExactSamePartsRow.holds Try.pinned (OpenSpec.ofChange fnExactSamePartsWrong)

/-- 'laws.FnExactLeastMark': WHATEVER THE INPUT: true; the input reads as it did. -/
def fnExactLeastMarkSpec : ChangeSpec := { name := "fnExactLeastMark", fn := fun _ => fun
  | [d] => { results := [.lit (.bool true)], args := [d] }
  | _ => none }
def fnExactLeastMarkRow : OpenClaim := { program := "ytoabohllphoioaa", sum := "f32be7b113446d46f6742391d86103bae72d8e21eb457000690847f337e4dba5", func := "loop.example/g00623/laws.FnExactLeastMark", spec := "fnExactLeastMark", unfollowed := true, recurses := true, apart := false }
def FnExactLeastMarkSaid : Prop := fnExactLeastMarkRow.holds Try.pinned (OpenSpec.ofChange fnExactLeastMarkSpec)

/-- ITS FALSE NEIGHBOUR: 'it returns false'. Refute it at one input. -/
def fnExactLeastMarkWrong : ChangeSpec := { name := "fnExactLeastMark", fn := fun _ => fun
  | [d] => { results := [.lit (.bool false)], args := [d] }
  | _ => none }
def FnExactLeastMarkWrongFalsely : Prop := fnExactLeastMarkRow.holds Try.pinned (OpenSpec.ofChange fnExactLeastMarkWrong)

/- THE SECOND FORM. 'bulk': how many values and letters a reading holds, each counted each time it is reached (what is shared counts as often as it is met; a slice's spare places count too). A statement '..UptoSaid' is the law's where the arguments, and the package variables that the reading takes, are together of bulk at most 1048576: NARROWER than '..Said'. Prove '..Said' where nothing that the law and all that it calls make is longer than what came in: it says more and counts as full. Else prove '..UptoSaid'. A law counts once. -/
mutual
def uptoBulk {H : Type} : DataW H → Nat
  | .lit (.string bytes) => bytes.length + 1
  | .lit _ => 1
  | .nil => 1
  | .ptr d => uptoBulk d + 1
  | .slice elems spare => uptoBulkAll elems + uptoBulkAll spare + 1
  | .agg parts => uptoBulkAll parts + 1
  | .iface _ d => uptoBulk d + 1
  | .map entries => uptoBulkEntries entries + 1
  | .held _ => 1
def uptoBulkAll {H : Type} : List (DataW H) → Nat
  | [] => 0
  | d :: r => uptoBulk d + uptoBulkAll r
def uptoBulkEntries {H : Type} : List (Lit × DataW H) → Nat
  | [] => 0
  | x :: r => uptoBulkEntry x + uptoBulkEntries r
def uptoBulkEntry {H : Type} : Lit × DataW H → Nat
  | (.string bytes, d) => bytes.length + uptoBulk d + 1
  | (_, d) => uptoBulk d + 1
 end
def uptoSmall : (H : Type) → List (DataW H) → Bool := fun _ ds => decide (uptoBulkAll ds ≤ 1048576)
def OpenSpec.upto (s : _root_.Go.ChangeSpec) : _root_.Go.OpenSpec := { _root_.Go.OpenSpec.ofChange s with cond := some uptoSmall }

/-- 'laws.FnScans', WHERE WHAT IT READS IS OF BULK AT MOST 1048576: true; the input reads as it did. -/
def fnScansUptoRow : OpenClaim := { program := "ytoabohllphoioaa", sum := "f32be7b113446d46f6742391d86103bae72d8e21eb457000690847f337e4dba5", func := "loop.example/g00623/laws.FnScans", spec := "fnScans", unfollowed := true, recurses := true, apart := false, narrowed := true }
def FnScansUptoSaid : Prop := fnScansUptoRow.holds Try.pinned (OpenSpec.upto fnScansSpec)

/-- 'laws.FnExactPlacesFault', WHERE WHAT IT READS IS OF BULK AT MOST 1048576: true; the input reads as it did. -/
def fnExactPlacesFaultUptoRow : OpenClaim := { program := "ytoabohllphoioaa", sum := "f32be7b113446d46f6742391d86103bae72d8e21eb457000690847f337e4dba5", func := "loop.example/g00623/laws.FnExactPlacesFault", spec := "fnExactPlacesFault", unfollowed := true, recurses := true, apart := false, narrowed := true }
def FnExactPlacesFaultUptoSaid : Prop := fnExactPlacesFaultUptoRow.holds Try.pinned (OpenSpec.upto fnExactPlacesFaultSpec)

/-- 'laws.FnExactRowsIn', WHERE WHAT IT READS IS OF BULK AT MOST 1048576: true; the input reads as it did. -/
def fnExactRowsInUptoRow : OpenClaim := { program := "ytoabohllphoioaa", sum := "f32be7b113446d46f6742391d86103bae72d8e21eb457000690847f337e4dba5", func := "loop.example/g00623/laws.FnExactRowsIn", spec := "fnExactRowsIn", unfollowed := true, recurses := true, apart := false, narrowed := true }
def FnExactRowsInUptoSaid : Prop := fnExactRowsInUptoRow.holds Try.pinned (OpenSpec.upto fnExactRowsInSpec)

/-- 'laws.FnExactWritePlace', WHERE WHAT IT READS IS OF BULK AT MOST 1048576: true; the input reads as it did. -/
def fnExactWritePlaceUptoRow : OpenClaim := { program := "ytoabohllphoioaa", sum := "f32be7b113446d46f6742391d86103bae72d8e21eb457000690847f337e4dba5", func := "loop.example/g00623/laws.FnExactWritePlace", spec := "fnExactWritePlace", unfollowed := true, recurses := true, apart := false, narrowed := true }
def FnExactWritePlaceUptoSaid : Prop := fnExactWritePlaceUptoRow.holds Try.pinned (OpenSpec.upto fnExactWritePlaceSpec)

/-- 'laws.FnExactScanPlaces', WHERE WHAT IT READS IS OF BULK AT MOST 1048576: true; the input reads as it did. -/
def fnExactScanPlacesUptoRow : OpenClaim := { program := "ytoabohllphoioaa", sum := "f32be7b113446d46f6742391d86103bae72d8e21eb457000690847f337e4dba5", func := "loop.example/g00623/laws.FnExactScanPlaces", spec := "fnExactScanPlaces", unfollowed := true, recurses := true, apart := false, narrowed := true }
def FnExactScanPlacesUptoSaid : Prop := fnExactScanPlacesUptoRow.holds Try.pinned (OpenSpec.upto fnExactScanPlacesSpec)

/-- 'laws.FnExactPartOf', WHERE WHAT IT READS IS OF BULK AT MOST 1048576: true; the input reads as it did. -/
def fnExactPartOfUptoRow : OpenClaim := { program := "ytoabohllphoioaa", sum := "f32be7b113446d46f6742391d86103bae72d8e21eb457000690847f337e4dba5", func := "loop.example/g00623/laws.FnExactPartOf", spec := "fnExactPartOf", apart := false, narrowed := true }
def FnExactPartOfUptoSaid : Prop := fnExactPartOfUptoRow.holds Try.pinned (OpenSpec.upto fnExactPartOfSpec)

/-- 'laws.FnExactPartsFault', WHERE WHAT IT READS IS OF BULK AT MOST 1048576: true; the input reads as it did. -/
def fnExactPartsFaultUptoRow : OpenClaim := { program := "ytoabohllphoioaa", sum := "f32be7b113446d46f6742391d86103bae72d8e21eb457000690847f337e4dba5", func := "loop.example/g00623/laws.FnExactPartsFault", spec := "fnExactPartsFault", unfollowed := true, recurses := true, apart := false, narrowed := true }
def FnExactPartsFaultUptoSaid : Prop := fnExactPartsFaultUptoRow.holds Try.pinned (OpenSpec.upto fnExactPartsFaultSpec)

/-- 'laws.FnExactPartsFrom', WHERE WHAT IT READS IS OF BULK AT MOST 1048576: true; the input reads as it did. -/
def fnExactPartsFromUptoRow : OpenClaim := { program := "ytoabohllphoioaa", sum := "f32be7b113446d46f6742391d86103bae72d8e21eb457000690847f337e4dba5", func := "loop.example/g00623/laws.FnExactPartsFrom", spec := "fnExactPartsFrom", unfollowed := true, recurses := true, apart := false, narrowed := true }
def FnExactPartsFromUptoSaid : Prop := fnExactPartsFromUptoRow.holds Try.pinned (OpenSpec.upto fnExactPartsFromSpec)

/-- 'laws.FnExactRowsOf', WHERE WHAT IT READS IS OF BULK AT MOST 1048576: true; the input reads as it did. -/
def fnExactRowsOfUptoRow : OpenClaim := { program := "ytoabohllphoioaa", sum := "f32be7b113446d46f6742391d86103bae72d8e21eb457000690847f337e4dba5", func := "loop.example/g00623/laws.FnExactRowsOf", spec := "fnExactRowsOf", unfollowed := true, recurses := true, apart := false, narrowed := true }
def FnExactRowsOfUptoSaid : Prop := fnExactRowsOfUptoRow.holds Try.pinned (OpenSpec.upto fnExactRowsOfSpec)

/-- 'laws.FnExactWritePart', WHERE WHAT IT READS IS OF BULK AT MOST 1048576: true; the input reads as it did. -/
def fnExactWritePartUptoRow : OpenClaim := { program := "ytoabohllphoioaa", sum := "f32be7b113446d46f6742391d86103bae72d8e21eb457000690847f337e4dba5", func := "loop.example/g00623/laws.FnExactWritePart", spec := "fnExactWritePart", unfollowed := true, recurses := true, apart := false, narrowed := true }
def FnExactWritePartUptoSaid : Prop := fnExactWritePartUptoRow.holds Try.pinned (OpenSpec.upto fnExactWritePartSpec)

/-- 'laws.FnExactSameParts', WHERE WHAT IT READS IS OF BULK AT MOST 1048576: true; the input reads as it did. -/
def fnExactSamePartsUptoRow : OpenClaim := { program := "ytoabohllphoioaa", sum := "f32be7b113446d46f6742391d86103bae72d8e21eb457000690847f337e4dba5", func := "loop.example/g00623/laws.FnExactSameParts", spec := "fnExactSameParts", unfollowed := true, recurses := true, apart := false, narrowed := true }
def FnExactSamePartsUptoSaid : Prop := fnExactSamePartsUptoRow.holds Try.pinned (OpenSpec.upto fnExactSamePartsSpec)

/-- 'laws.FnExactLeastMark', WHERE WHAT IT READS IS OF BULK AT MOST 1048576: true; the input reads as it did. -/
def fnExactLeastMarkUptoRow : OpenClaim := { program := "ytoabohllphoioaa", sum := "f32be7b113446d46f6742391d86103bae72d8e21eb457000690847f337e4dba5", func := "loop.example/g00623/laws.FnExactLeastMark", spec := "fnExactLeastMark", unfollowed := true, recurses := true, apart := false, narrowed := true }
def FnExactLeastMarkUptoSaid : Prop := fnExactLeastMarkUptoRow.holds Try.pinned (OpenSpec.upto fnExactLeastMarkSpec)

end Rows
end Go.Proofs.Ytoabohllphoioaa
