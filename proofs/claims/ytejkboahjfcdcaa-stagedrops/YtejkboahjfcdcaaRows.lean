/-
  No cell of these rows narrows 'for every input' (looked for: loops, veiled, ifaces, maps, wideKeys, modest, calm, conditions, laid).
  DERIVED. THE GIVEN ROWS OF THIS SEAT. 5 by the template 'for every input the law returns true; each argument reads behind the call as it read before'; 0 by the template 'total and deterministic' (their statements: YtejkboahjfcdcaaTotals.lean).
  GIVEN WITH THE SEED: the statements are not yours to turn. If you find one false, say at which input.
  Laid BY PROGRAM, IN A SANDBOX (cutbox-rows.mjs): the forced cells as the released guide's own fill.sh prints them over the translation e397471f8c60f5ec… (all of the seat's roots in one cut). By AI agents, Wed Nov 11 2026. No macro, syntax, notation, axiom, sorry.
-/
import Derived.Test.YtejkboahjfcdcaaChecked
import GoSem.Claim
import GoSem.ClaimJoined
import GoSem.ClaimMapViews
import Derived.JoinedTies
import Derived.KernelRfl
namespace Go.Proofs.Ytejkboahjfcdcaa
/- THE CELL 'sum', in the pinned program and in every row, IS THE sha256 OF THE DUMP (.gsa) THAT YtejkboahjfcdcaaProg.lean LOADS. Nothing in Lean hashes anything: it is a label: what it is worth is what the hold of that sum in a sandbox is worth. -/
noncomputable def Try.pinned : Pinned := { name := "ytejkboahjfcdcaa", sum := "e397471f8c60f5ec9d714aeef46d3b5de34102d24d0c9fad72446c725e52b3ac", checked := Try.checked }
namespace Rows
def none {H : Type} : Left H := { results := [], args := [] }

/-- 'staithelaw18.StageScript': WHATEVER THE INPUT: true; the input reads as it did. -/
def stageScriptSpec : ChangeSpec := { name := "stageScript", fn := fun _ => fun
  | [d] => { results := [.lit (.bool true)], args := [d] }
  | _ => none }
def stageScriptRow : OpenClaim := { program := "ytejkboahjfcdcaa", sum := "e397471f8c60f5ec9d714aeef46d3b5de34102d24d0c9fad72446c725e52b3ac", func := "staithe/staithelaw18.StageScript", spec := "stageScript", unfollowed := true, recurses := true, plainKeys := false, apart := false }
def StageScriptSaid : Prop := stageScriptRow.holds Try.pinned (OpenSpec.ofChange stageScriptSpec)

/-- ITS FALSE NEIGHBOUR: 'it returns false'. Refute it at one input. -/
def stageScriptWrong : ChangeSpec := { name := "stageScript", fn := fun _ => fun
  | [d] => { results := [.lit (.bool false)], args := [d] }
  | _ => none }
def StageScriptWrongFalsely : Prop := stageScriptRow.holds Try.pinned (OpenSpec.ofChange stageScriptWrong)

/-- 'staithelaw18.StageApart': WHATEVER THE INPUT: true; the input reads as it did. -/
def stageApartSpec : ChangeSpec := { name := "stageApart", fn := fun _ => fun
  | [d1, d2, d3] => { results := [.lit (.bool true)], args := [d1, d2, d3] }
  | _ => none }
def stageApartRow : OpenClaim := { program := "ytejkboahjfcdcaa", sum := "e397471f8c60f5ec9d714aeef46d3b5de34102d24d0c9fad72446c725e52b3ac", func := "staithe/staithelaw18.StageApart", spec := "stageApart", unfollowed := true, recurses := true, plainKeys := false, apart := false }
def StageApartSaid : Prop := stageApartRow.holds Try.pinned (OpenSpec.ofChange stageApartSpec)

/-- ITS FALSE NEIGHBOUR: 'it returns false'. Refute it at one input. -/
def stageApartWrong : ChangeSpec := { name := "stageApart", fn := fun _ => fun
  | [d1, d2, d3] => { results := [.lit (.bool false)], args := [d1, d2, d3] }
  | _ => none }
def StageApartWrongFalsely : Prop := stageApartRow.holds Try.pinned (OpenSpec.ofChange stageApartWrong)

/-- 'staithelaw18.StageDrops': WHATEVER THE INPUT: true; the input reads as it did. -/
def stageDropsSpec : ChangeSpec := { name := "stageDrops", fn := fun _ => fun
  | [d1, d2] => { results := [.lit (.bool true)], args := [d1, d2] }
  | _ => none }
def stageDropsRow : OpenClaim := { program := "ytejkboahjfcdcaa", sum := "e397471f8c60f5ec9d714aeef46d3b5de34102d24d0c9fad72446c725e52b3ac", func := "staithe/staithelaw18.StageDrops", spec := "stageDrops", unfollowed := true, recurses := true, plainKeys := false, apart := false }
def StageDropsSaid : Prop := stageDropsRow.holds Try.pinned (OpenSpec.ofChange stageDropsSpec)

/-- ITS FALSE NEIGHBOUR: 'it returns false'. Refute it at one input. -/
def stageDropsWrong : ChangeSpec := { name := "stageDrops", fn := fun _ => fun
  | [d1, d2] => { results := [.lit (.bool false)], args := [d1, d2] }
  | _ => none }
def StageDropsWrongFalsely : Prop := stageDropsRow.holds Try.pinned (OpenSpec.ofChange stageDropsWrong)

/-- 'staithelaw18.StageNone': WHATEVER THE INPUT: true; the input reads as it did. -/
def stageNoneSpec : ChangeSpec := { name := "stageNone", fn := fun _ => fun
  | [d] => { results := [.lit (.bool true)], args := [d] }
  | _ => none }
def stageNoneRow : OpenClaim := { program := "ytejkboahjfcdcaa", sum := "e397471f8c60f5ec9d714aeef46d3b5de34102d24d0c9fad72446c725e52b3ac", func := "staithe/staithelaw18.StageNone", spec := "stageNone", unfollowed := true, recurses := true, plainKeys := false, apart := false }
def StageNoneSaid : Prop := stageNoneRow.holds Try.pinned (OpenSpec.ofChange stageNoneSpec)

/-- ITS FALSE NEIGHBOUR: 'it returns false'. Refute it at one input. -/
def stageNoneWrong : ChangeSpec := { name := "stageNone", fn := fun _ => fun
  | [d] => { results := [.lit (.bool false)], args := [d] }
  | _ => none }
def StageNoneWrongFalsely : Prop := stageNoneRow.holds Try.pinned (OpenSpec.ofChange stageNoneWrong)

/-- 'staithelaw18.StageOrder': WHATEVER THE INPUT: true; the input reads as it did. -/
def stageOrderSpec : ChangeSpec := { name := "stageOrder", fn := fun _ => fun
  | [d1, d2] => { results := [.lit (.bool true)], args := [d1, d2] }
  | _ => none }
def stageOrderRow : OpenClaim := { program := "ytejkboahjfcdcaa", sum := "e397471f8c60f5ec9d714aeef46d3b5de34102d24d0c9fad72446c725e52b3ac", func := "staithe/staithelaw18.StageOrder", spec := "stageOrder", unfollowed := true, recurses := true, plainKeys := false, apart := false }
def StageOrderSaid : Prop := stageOrderRow.holds Try.pinned (OpenSpec.ofChange stageOrderSpec)

/-- ITS FALSE NEIGHBOUR: 'it returns false'. Refute it at one input. -/
def stageOrderWrong : ChangeSpec := { name := "stageOrder", fn := fun _ => fun
  | [d1, d2] => { results := [.lit (.bool false)], args := [d1, d2] }
  | _ => none }
def StageOrderWrongFalsely : Prop := stageOrderRow.holds Try.pinned (OpenSpec.ofChange stageOrderWrong)

/- THE SECOND FORM. 'bulk': how many values and letters a reading holds, each counted each time it is reached (what is shared counts as often as it is met; a slice's spare places count too). A statement '..UptoSaid' is the law's where the arguments, and the package variables that the reading takes, are together of bulk at most 1048576: NARROWER than '..Said'. Prove '..Said' where nothing that the law and all that it calls make is longer than what came in: it says more and counts as full. Else prove '..UptoSaid'. A law counts once. -/
mutual
def uptoBulk {H : Type} : DataW H → Nat
  | .lit (.string bytes) => bytes.length + 1
  | .lit _ => 1
  | .nil => 1
  | .ptr d => uptoBulk d + 1
  | .slice elems spare => uptoBulkAll elems + uptoBulkAll spare + 1
  | .agg parts => uptoBulkAll parts + 1
  | .iface _ d => uptoBulk d + 1
  | .map entries => uptoBulkEntries entries + 1
  | .held _ => 1
def uptoBulkAll {H : Type} : List (DataW H) → Nat
  | [] => 0
  | d :: r => uptoBulk d + uptoBulkAll r
def uptoBulkEntries {H : Type} : List (Lit × DataW H) → Nat
  | [] => 0
  | x :: r => uptoBulkEntry x + uptoBulkEntries r
def uptoBulkEntry {H : Type} : Lit × DataW H → Nat
  | (.string bytes, d) => bytes.length + uptoBulk d + 1
  | (_, d) => uptoBulk d + 1
 end
def uptoSmall : (H : Type) → List (DataW H) → Bool := fun _ ds => decide (uptoBulkAll ds ≤ 1048576)
def OpenSpec.upto (s : _root_.Go.ChangeSpec) : _root_.Go.OpenSpec := { _root_.Go.OpenSpec.ofChange s with cond := some uptoSmall }

/-- 'staithelaw18.StageScript', WHERE WHAT IT READS IS OF BULK AT MOST 1048576: true; the input reads as it did. -/
def stageScriptUptoRow : OpenClaim := { program := "ytejkboahjfcdcaa", sum := "e397471f8c60f5ec9d714aeef46d3b5de34102d24d0c9fad72446c725e52b3ac", func := "staithe/staithelaw18.StageScript", spec := "stageScript", unfollowed := true, recurses := true, plainKeys := false, apart := false, narrowed := true }
def StageScriptUptoSaid : Prop := stageScriptUptoRow.holds Try.pinned (OpenSpec.upto stageScriptSpec)

/-- 'staithelaw18.StageApart', WHERE WHAT IT READS IS OF BULK AT MOST 1048576: true; the input reads as it did. -/
def stageApartUptoRow : OpenClaim := { program := "ytejkboahjfcdcaa", sum := "e397471f8c60f5ec9d714aeef46d3b5de34102d24d0c9fad72446c725e52b3ac", func := "staithe/staithelaw18.StageApart", spec := "stageApart", unfollowed := true, recurses := true, plainKeys := false, apart := false, narrowed := true }
def StageApartUptoSaid : Prop := stageApartUptoRow.holds Try.pinned (OpenSpec.upto stageApartSpec)

/-- 'staithelaw18.StageDrops', WHERE WHAT IT READS IS OF BULK AT MOST 1048576: true; the input reads as it did. -/
def stageDropsUptoRow : OpenClaim := { program := "ytejkboahjfcdcaa", sum := "e397471f8c60f5ec9d714aeef46d3b5de34102d24d0c9fad72446c725e52b3ac", func := "staithe/staithelaw18.StageDrops", spec := "stageDrops", unfollowed := true, recurses := true, plainKeys := false, apart := false, narrowed := true }
def StageDropsUptoSaid : Prop := stageDropsUptoRow.holds Try.pinned (OpenSpec.upto stageDropsSpec)

/-- 'staithelaw18.StageNone', WHERE WHAT IT READS IS OF BULK AT MOST 1048576: true; the input reads as it did. -/
def stageNoneUptoRow : OpenClaim := { program := "ytejkboahjfcdcaa", sum := "e397471f8c60f5ec9d714aeef46d3b5de34102d24d0c9fad72446c725e52b3ac", func := "staithe/staithelaw18.StageNone", spec := "stageNone", unfollowed := true, recurses := true, plainKeys := false, apart := false, narrowed := true }
def StageNoneUptoSaid : Prop := stageNoneUptoRow.holds Try.pinned (OpenSpec.upto stageNoneSpec)

/-- 'staithelaw18.StageOrder', WHERE WHAT IT READS IS OF BULK AT MOST 1048576: true; the input reads as it did. -/
def stageOrderUptoRow : OpenClaim := { program := "ytejkboahjfcdcaa", sum := "e397471f8c60f5ec9d714aeef46d3b5de34102d24d0c9fad72446c725e52b3ac", func := "staithe/staithelaw18.StageOrder", spec := "stageOrder", unfollowed := true, recurses := true, plainKeys := false, apart := false, narrowed := true }
def StageOrderUptoSaid : Prop := stageOrderUptoRow.holds Try.pinned (OpenSpec.upto stageOrderSpec)

end Rows
end Go.Proofs.Ytejkboahjfcdcaa
