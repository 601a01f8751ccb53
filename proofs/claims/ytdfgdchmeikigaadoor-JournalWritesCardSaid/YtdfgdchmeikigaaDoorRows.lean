/-
  NARROWER THAN 'FOR EVERY INPUT', by the rows' own cells (each row's printed sentence says how): OtsKeys: laid · OtsSigns: laid · OtsReads: laid · OtsSpoilt: laid · MerkleRoots: laid · MerkleWays: laid · MerkleLeads: laid · MerkleBinds: laid · JournalWrites: laid · JournalReads: laid.
  DERIVED. THE GIVEN ROWS OF THIS SEAT. 10 by the template 'for every input the law returns true; each argument reads behind the call as it read before'; 0 by the template 'total and deterministic' (their statements: YtdfgdchmeikigaaDoorTotals.lean).
  GIVEN WITH THE SEED: the statements are not yours to turn. If you find one false, say at which input.
  Laid BY PROGRAM, IN A SANDBOX (cutbox-rows.mjs): the forced cells as the released guide's own fill.sh prints them over the translation f9383d7779f8149c… (all of the seat's roots in one cut). By AI agents, Wed Nov 11 2026. No macro, syntax, notation, axiom, sorry.
-/
import Derived.Test.YtdfgdchmeikigaaDoorChecked
import GoSem.Claim
import GoSem.ClaimJoined
import GoSem.ClaimMapViews
import Derived.JoinedTies
import Derived.KernelRfl
namespace Go.Proofs.YtdfgdchmeikigaaDoor
/- THE CELL 'sum', in the pinned program and in every row, IS THE sha256 OF THE DUMP (.gsa) THAT YtdfgdchmeikigaaDoorProg.lean LOADS. Nothing in Lean hashes anything: it is a label: what it is worth is what the hold of that sum in a sandbox is worth. -/
noncomputable def Tryd.pinned : Pinned := { name := "ytdfgdchmeikigaadoor", sum := "f9383d7779f8149cd7f40811b16eabd318315c60e784b9b81250e5fc02219d02", checked := Tryd.checked }
namespace Rows
def none {H : Type} : Left H := { results := [], args := [] }

/- WHAT THE LISTED PACKAGE-LEVEL VARIABLES READ AS WHEN THE CALL BEGINS. Each datum BY PROGRAM (the guide's laid-datum.mjs) off the statement by which the dump's own 'gosem.cut.vars' lays the variable. In a bare row this is a premise. The card (YtdfgdchmeikigaaDoorCards.lean) ties it to the program's text. -/
def laid_drogher_sha_cubes {H : Type} : DataW H := .agg [.lit (.int .u32 1116352408), .lit (.int .u32 1899447441), .lit (.int .u32 3049323471), .lit (.int .u32 3921009573), .lit (.int .u32 961987163), .lit (.int .u32 1508970993), .lit (.int .u32 2453635748), .lit (.int .u32 2870763221), .lit (.int .u32 3624381080), .lit (.int .u32 310598401), .lit (.int .u32 607225278), .lit (.int .u32 1426881987), .lit (.int .u32 1925078388), .lit (.int .u32 2162078206), .lit (.int .u32 2614888103), .lit (.int .u32 3248222580), .lit (.int .u32 3835390401), .lit (.int .u32 4022224774), .lit (.int .u32 264347078), .lit (.int .u32 604807628), .lit (.int .u32 770255983), .lit (.int .u32 1249150122), .lit (.int .u32 1555081692), .lit (.int .u32 1996064986), .lit (.int .u32 2554220882), .lit (.int .u32 2821834349), .lit (.int .u32 2952996808), .lit (.int .u32 3210313671), .lit (.int .u32 3336571891), .lit (.int .u32 3584528711), .lit (.int .u32 113926993), .lit (.int .u32 338241895), .lit (.int .u32 666307205), .lit (.int .u32 773529912), .lit (.int .u32 1294757372), .lit (.int .u32 1396182291), .lit (.int .u32 1695183700), .lit (.int .u32 1986661051), .lit (.int .u32 2177026350), .lit (.int .u32 2456956037), .lit (.int .u32 2730485921), .lit (.int .u32 2820302411), .lit (.int .u32 3259730800), .lit (.int .u32 3345764771), .lit (.int .u32 3516065817), .lit (.int .u32 3600352804), .lit (.int .u32 4094571909), .lit (.int .u32 275423344), .lit (.int .u32 430227734), .lit (.int .u32 506948616), .lit (.int .u32 659060556), .lit (.int .u32 883997877), .lit (.int .u32 958139571), .lit (.int .u32 1322822218), .lit (.int .u32 1537002063), .lit (.int .u32 1747873779), .lit (.int .u32 1955562222), .lit (.int .u32 2024104815), .lit (.int .u32 2227730452), .lit (.int .u32 2361852424), .lit (.int .u32 2428436474), .lit (.int .u32 2756734187), .lit (.int .u32 3204031479), .lit (.int .u32 3329325298)]

/-- 'drogherlaw03.OtsKeys': WHATEVER THE INPUT: true; the input reads as it did. -/
def otsKeysSpec : ChangeSpec := { name := "otsKeys", fn := fun _ => fun
  | [d1, d2, d3, d4] => { results := [.lit (.bool true)], args := [d1, d2, d3, d4] }
  | _ => none }
def otsKeysRow : OpenClaim := { program := "ytdfgdchmeikigaadoor", sum := "f9383d7779f8149cd7f40811b16eabd318315c60e784b9b81250e5fc02219d02", func := "drogher/drogherlaw03.OtsKeys", spec := "otsKeys", unfollowed := true, recurses := true, named := ["drogher/sha.cubes"], apart := false, laid := [("drogher/sha.cubes", laid_drogher_sha_cubes)] }
def OtsKeysSaid : Prop := otsKeysRow.holds Tryd.pinned (OpenSpec.ofChange otsKeysSpec)

/-- ITS FALSE NEIGHBOUR: 'it returns false'. Refute it at one input. -/
def otsKeysWrong : ChangeSpec := { name := "otsKeys", fn := fun _ => fun
  | [d1, d2, d3, d4] => { results := [.lit (.bool false)], args := [d1, d2, d3, d4] }
  | _ => none }
def OtsKeysWrongFalsely : Prop := otsKeysRow.holds Tryd.pinned (OpenSpec.ofChange otsKeysWrong)

/-- 'drogherlaw03.OtsSigns': WHATEVER THE INPUT: true; the input reads as it did. -/
def otsSignsSpec : ChangeSpec := { name := "otsSigns", fn := fun _ => fun
  | [d1, d2, d3, d4, d5] => { results := [.lit (.bool true)], args := [d1, d2, d3, d4, d5] }
  | _ => none }
def otsSignsRow : OpenClaim := { program := "ytdfgdchmeikigaadoor", sum := "f9383d7779f8149cd7f40811b16eabd318315c60e784b9b81250e5fc02219d02", func := "drogher/drogherlaw03.OtsSigns", spec := "otsSigns", unfollowed := true, recurses := true, named := ["drogher/sha.cubes"], apart := false, laid := [("drogher/sha.cubes", laid_drogher_sha_cubes)] }
def OtsSignsSaid : Prop := otsSignsRow.holds Tryd.pinned (OpenSpec.ofChange otsSignsSpec)

/-- ITS FALSE NEIGHBOUR: 'it returns false'. Refute it at one input. -/
def otsSignsWrong : ChangeSpec := { name := "otsSigns", fn := fun _ => fun
  | [d1, d2, d3, d4, d5] => { results := [.lit (.bool false)], args := [d1, d2, d3, d4, d5] }
  | _ => none }
def OtsSignsWrongFalsely : Prop := otsSignsRow.holds Tryd.pinned (OpenSpec.ofChange otsSignsWrong)

/-- 'drogherlaw03.OtsReads': WHATEVER THE INPUT: true; the input reads as it did. -/
def otsReadsSpec : ChangeSpec := { name := "otsReads", fn := fun _ => fun
  | [d1, d2, d3, d4, d5] => { results := [.lit (.bool true)], args := [d1, d2, d3, d4, d5] }
  | _ => none }
def otsReadsRow : OpenClaim := { program := "ytdfgdchmeikigaadoor", sum := "f9383d7779f8149cd7f40811b16eabd318315c60e784b9b81250e5fc02219d02", func := "drogher/drogherlaw03.OtsReads", spec := "otsReads", unfollowed := true, recurses := true, named := ["drogher/sha.cubes"], apart := false, laid := [("drogher/sha.cubes", laid_drogher_sha_cubes)] }
def OtsReadsSaid : Prop := otsReadsRow.holds Tryd.pinned (OpenSpec.ofChange otsReadsSpec)

/-- ITS FALSE NEIGHBOUR: 'it returns false'. Refute it at one input. -/
def otsReadsWrong : ChangeSpec := { name := "otsReads", fn := fun _ => fun
  | [d1, d2, d3, d4, d5] => { results := [.lit (.bool false)], args := [d1, d2, d3, d4, d5] }
  | _ => none }
def OtsReadsWrongFalsely : Prop := otsReadsRow.holds Tryd.pinned (OpenSpec.ofChange otsReadsWrong)

/-- 'drogherlaw03.OtsSpoilt': WHATEVER THE INPUT: true; the input reads as it did. -/
def otsSpoiltSpec : ChangeSpec := { name := "otsSpoilt", fn := fun _ => fun
  | [d1, d2, d3, d4, d5, d6, d7] => { results := [.lit (.bool true)], args := [d1, d2, d3, d4, d5, d6, d7] }
  | _ => none }
def otsSpoiltRow : OpenClaim := { program := "ytdfgdchmeikigaadoor", sum := "f9383d7779f8149cd7f40811b16eabd318315c60e784b9b81250e5fc02219d02", func := "drogher/drogherlaw03.OtsSpoilt", spec := "otsSpoilt", unfollowed := true, recurses := true, named := ["drogher/sha.cubes"], apart := false, laid := [("drogher/sha.cubes", laid_drogher_sha_cubes)] }
def OtsSpoiltSaid : Prop := otsSpoiltRow.holds Tryd.pinned (OpenSpec.ofChange otsSpoiltSpec)

/-- ITS FALSE NEIGHBOUR: 'it returns false'. Refute it at one input. -/
def otsSpoiltWrong : ChangeSpec := { name := "otsSpoilt", fn := fun _ => fun
  | [d1, d2, d3, d4, d5, d6, d7] => { results := [.lit (.bool false)], args := [d1, d2, d3, d4, d5, d6, d7] }
  | _ => none }
def OtsSpoiltWrongFalsely : Prop := otsSpoiltRow.holds Tryd.pinned (OpenSpec.ofChange otsSpoiltWrong)

/-- 'drogherlaw21.MerkleRoots': WHATEVER THE INPUT: true; the input reads as it did. -/
def merkleRootsSpec : ChangeSpec := { name := "merkleRoots", fn := fun _ => fun
  | [d1, d2] => { results := [.lit (.bool true)], args := [d1, d2] }
  | _ => none }
def merkleRootsRow : OpenClaim := { program := "ytdfgdchmeikigaadoor", sum := "f9383d7779f8149cd7f40811b16eabd318315c60e784b9b81250e5fc02219d02", func := "drogher/drogherlaw21.MerkleRoots", spec := "merkleRoots", recurses := true, named := ["drogher/sha.cubes"], apart := false, laid := [("drogher/sha.cubes", laid_drogher_sha_cubes)] }
def MerkleRootsSaid : Prop := merkleRootsRow.holds Tryd.pinned (OpenSpec.ofChange merkleRootsSpec)

/-- ITS FALSE NEIGHBOUR: 'it returns false'. Refute it at one input. -/
def merkleRootsWrong : ChangeSpec := { name := "merkleRoots", fn := fun _ => fun
  | [d1, d2] => { results := [.lit (.bool false)], args := [d1, d2] }
  | _ => none }
def MerkleRootsWrongFalsely : Prop := merkleRootsRow.holds Tryd.pinned (OpenSpec.ofChange merkleRootsWrong)

/-- 'drogherlaw21.MerkleWays': WHATEVER THE INPUT: true; the input reads as it did. -/
def merkleWaysSpec : ChangeSpec := { name := "merkleWays", fn := fun _ => fun
  | [d1, d2] => { results := [.lit (.bool true)], args := [d1, d2] }
  | _ => none }
def merkleWaysRow : OpenClaim := { program := "ytdfgdchmeikigaadoor", sum := "f9383d7779f8149cd7f40811b16eabd318315c60e784b9b81250e5fc02219d02", func := "drogher/drogherlaw21.MerkleWays", spec := "merkleWays", recurses := true, named := ["drogher/sha.cubes"], apart := false, laid := [("drogher/sha.cubes", laid_drogher_sha_cubes)] }
def MerkleWaysSaid : Prop := merkleWaysRow.holds Tryd.pinned (OpenSpec.ofChange merkleWaysSpec)

/-- ITS FALSE NEIGHBOUR: 'it returns false'. Refute it at one input. -/
def merkleWaysWrong : ChangeSpec := { name := "merkleWays", fn := fun _ => fun
  | [d1, d2] => { results := [.lit (.bool false)], args := [d1, d2] }
  | _ => none }
def MerkleWaysWrongFalsely : Prop := merkleWaysRow.holds Tryd.pinned (OpenSpec.ofChange merkleWaysWrong)

/-- 'drogherlaw21.MerkleLeads': WHATEVER THE INPUT: true; the input reads as it did. -/
def merkleLeadsSpec : ChangeSpec := { name := "merkleLeads", fn := fun _ => fun
  | [d1, d2, d3, d4] => { results := [.lit (.bool true)], args := [d1, d2, d3, d4] }
  | _ => none }
def merkleLeadsRow : OpenClaim := { program := "ytdfgdchmeikigaadoor", sum := "f9383d7779f8149cd7f40811b16eabd318315c60e784b9b81250e5fc02219d02", func := "drogher/drogherlaw21.MerkleLeads", spec := "merkleLeads", recurses := true, named := ["drogher/sha.cubes"], apart := false, laid := [("drogher/sha.cubes", laid_drogher_sha_cubes)] }
def MerkleLeadsSaid : Prop := merkleLeadsRow.holds Tryd.pinned (OpenSpec.ofChange merkleLeadsSpec)

/-- ITS FALSE NEIGHBOUR: 'it returns false'. Refute it at one input. -/
def merkleLeadsWrong : ChangeSpec := { name := "merkleLeads", fn := fun _ => fun
  | [d1, d2, d3, d4] => { results := [.lit (.bool false)], args := [d1, d2, d3, d4] }
  | _ => none }
def MerkleLeadsWrongFalsely : Prop := merkleLeadsRow.holds Tryd.pinned (OpenSpec.ofChange merkleLeadsWrong)

/-- 'drogherlaw21.MerkleBinds': WHATEVER THE INPUT: true; the input reads as it did. -/
def merkleBindsSpec : ChangeSpec := { name := "merkleBinds", fn := fun _ => fun
  | [d1, d2, d3, d4] => { results := [.lit (.bool true)], args := [d1, d2, d3, d4] }
  | _ => none }
def merkleBindsRow : OpenClaim := { program := "ytdfgdchmeikigaadoor", sum := "f9383d7779f8149cd7f40811b16eabd318315c60e784b9b81250e5fc02219d02", func := "drogher/drogherlaw21.MerkleBinds", spec := "merkleBinds", recurses := true, named := ["drogher/sha.cubes"], apart := false, laid := [("drogher/sha.cubes", laid_drogher_sha_cubes)] }
def MerkleBindsSaid : Prop := merkleBindsRow.holds Tryd.pinned (OpenSpec.ofChange merkleBindsSpec)

/-- ITS FALSE NEIGHBOUR: 'it returns false'. Refute it at one input. -/
def merkleBindsWrong : ChangeSpec := { name := "merkleBinds", fn := fun _ => fun
  | [d1, d2, d3, d4] => { results := [.lit (.bool false)], args := [d1, d2, d3, d4] }
  | _ => none }
def MerkleBindsWrongFalsely : Prop := merkleBindsRow.holds Tryd.pinned (OpenSpec.ofChange merkleBindsWrong)

/-- 'drogherlaw24.JournalWrites': WHATEVER THE INPUT: true; the input reads as it did. -/
def journalWritesSpec : ChangeSpec := { name := "journalWrites", fn := fun _ => fun
  | [d] => { results := [.lit (.bool true)], args := [d] }
  | _ => none }
def journalWritesRow : OpenClaim := { program := "ytdfgdchmeikigaadoor", sum := "f9383d7779f8149cd7f40811b16eabd318315c60e784b9b81250e5fc02219d02", func := "drogher/drogherlaw24.JournalWrites", spec := "journalWrites", unfollowed := true, recurses := true, named := ["drogher/sha.cubes"], apart := false, laid := [("drogher/sha.cubes", laid_drogher_sha_cubes)] }
def JournalWritesSaid : Prop := journalWritesRow.holds Tryd.pinned (OpenSpec.ofChange journalWritesSpec)

/-- ITS FALSE NEIGHBOUR: 'it returns false'. Refute it at one input. -/
def journalWritesWrong : ChangeSpec := { name := "journalWrites", fn := fun _ => fun
  | [d] => { results := [.lit (.bool false)], args := [d] }
  | _ => none }
def JournalWritesWrongFalsely : Prop := journalWritesRow.holds Tryd.pinned (OpenSpec.ofChange journalWritesWrong)

/-- 'drogherlaw24.JournalReads': WHATEVER THE INPUT: true; the input reads as it did. -/
def journalReadsSpec : ChangeSpec := { name := "journalReads", fn := fun _ => fun
  | [d] => { results := [.lit (.bool true)], args := [d] }
  | _ => none }
def journalReadsRow : OpenClaim := { program := "ytdfgdchmeikigaadoor", sum := "f9383d7779f8149cd7f40811b16eabd318315c60e784b9b81250e5fc02219d02", func := "drogher/drogherlaw24.JournalReads", spec := "journalReads", unfollowed := true, recurses := true, named := ["drogher/sha.cubes"], apart := false, laid := [("drogher/sha.cubes", laid_drogher_sha_cubes)] }
def JournalReadsSaid : Prop := journalReadsRow.holds Tryd.pinned (OpenSpec.ofChange journalReadsSpec)

/-- ITS FALSE NEIGHBOUR: 'it returns false'. Refute it at one input. -/
def journalReadsWrong : ChangeSpec := { name := "journalReads", fn := fun _ => fun
  | [d] => { results := [.lit (.bool false)], args := [d] }
  | _ => none }
def JournalReadsWrongFalsely : Prop := journalReadsRow.holds Tryd.pinned (OpenSpec.ofChange journalReadsWrong)

/- THE SECOND FORM. 'bulk': how many values and letters a reading holds, each counted each time it is reached (what is shared counts as often as it is met; a slice's spare places count too). A statement '..UptoSaid' is the law's where the arguments, and the package variables that the reading takes, are together of bulk at most 1048576: NARROWER than '..Said'. Prove '..Said' where nothing that the law and all that it calls make is longer than what came in: it says more and counts as full. Else prove '..UptoSaid'. A law counts once. -/
mutual
def uptoBulk {H : Type} : DataW H → Nat
  | .lit (.string bytes) => bytes.length + 1
  | .lit _ => 1
  | .nil => 1
  | .ptr d => uptoBulk d + 1
  | .slice elems spare => uptoBulkAll elems + uptoBulkAll spare + 1
  | .agg parts => uptoBulkAll parts + 1
  | .iface _ d => uptoBulk d + 1
  | .map entries => uptoBulkEntries entries + 1
  | .held _ => 1
def uptoBulkAll {H : Type} : List (DataW H) → Nat
  | [] => 0
  | d :: r => uptoBulk d + uptoBulkAll r
def uptoBulkEntries {H : Type} : List (Lit × DataW H) → Nat
  | [] => 0
  | x :: r => uptoBulkEntry x + uptoBulkEntries r
def uptoBulkEntry {H : Type} : Lit × DataW H → Nat
  | (.string bytes, d) => bytes.length + uptoBulk d + 1
  | (_, d) => uptoBulk d + 1
 end
def uptoSmall : (H : Type) → List (DataW H) → Bool := fun _ ds => decide (uptoBulkAll ds ≤ 1048576)
def OpenSpec.upto (s : _root_.Go.ChangeSpec) : _root_.Go.OpenSpec := { _root_.Go.OpenSpec.ofChange s with cond := some uptoSmall }

/-- 'drogherlaw03.OtsKeys', WHERE WHAT IT READS IS OF BULK AT MOST 1048576: true; the input reads as it did. -/
def otsKeysUptoRow : OpenClaim := { program := "ytdfgdchmeikigaadoor", sum := "f9383d7779f8149cd7f40811b16eabd318315c60e784b9b81250e5fc02219d02", func := "drogher/drogherlaw03.OtsKeys", spec := "otsKeys", unfollowed := true, recurses := true, named := ["drogher/sha.cubes"], apart := false, laid := [("drogher/sha.cubes", laid_drogher_sha_cubes)], narrowed := true }
def OtsKeysUptoSaid : Prop := otsKeysUptoRow.holds Tryd.pinned (OpenSpec.upto otsKeysSpec)

/-- 'drogherlaw03.OtsSigns', WHERE WHAT IT READS IS OF BULK AT MOST 1048576: true; the input reads as it did. -/
def otsSignsUptoRow : OpenClaim := { program := "ytdfgdchmeikigaadoor", sum := "f9383d7779f8149cd7f40811b16eabd318315c60e784b9b81250e5fc02219d02", func := "drogher/drogherlaw03.OtsSigns", spec := "otsSigns", unfollowed := true, recurses := true, named := ["drogher/sha.cubes"], apart := false, laid := [("drogher/sha.cubes", laid_drogher_sha_cubes)], narrowed := true }
def OtsSignsUptoSaid : Prop := otsSignsUptoRow.holds Tryd.pinned (OpenSpec.upto otsSignsSpec)

/-- 'drogherlaw03.OtsReads', WHERE WHAT IT READS IS OF BULK AT MOST 1048576: true; the input reads as it did. -/
def otsReadsUptoRow : OpenClaim := { program := "ytdfgdchmeikigaadoor", sum := "f9383d7779f8149cd7f40811b16eabd318315c60e784b9b81250e5fc02219d02", func := "drogher/drogherlaw03.OtsReads", spec := "otsReads", unfollowed := true, recurses := true, named := ["drogher/sha.cubes"], apart := false, laid := [("drogher/sha.cubes", laid_drogher_sha_cubes)], narrowed := true }
def OtsReadsUptoSaid : Prop := otsReadsUptoRow.holds Tryd.pinned (OpenSpec.upto otsReadsSpec)

/-- 'drogherlaw03.OtsSpoilt', WHERE WHAT IT READS IS OF BULK AT MOST 1048576: true; the input reads as it did. -/
def otsSpoiltUptoRow : OpenClaim := { program := "ytdfgdchmeikigaadoor", sum := "f9383d7779f8149cd7f40811b16eabd318315c60e784b9b81250e5fc02219d02", func := "drogher/drogherlaw03.OtsSpoilt", spec := "otsSpoilt", unfollowed := true, recurses := true, named := ["drogher/sha.cubes"], apart := false, laid := [("drogher/sha.cubes", laid_drogher_sha_cubes)], narrowed := true }
def OtsSpoiltUptoSaid : Prop := otsSpoiltUptoRow.holds Tryd.pinned (OpenSpec.upto otsSpoiltSpec)

/-- 'drogherlaw21.MerkleRoots', WHERE WHAT IT READS IS OF BULK AT MOST 1048576: true; the input reads as it did. -/
def merkleRootsUptoRow : OpenClaim := { program := "ytdfgdchmeikigaadoor", sum := "f9383d7779f8149cd7f40811b16eabd318315c60e784b9b81250e5fc02219d02", func := "drogher/drogherlaw21.MerkleRoots", spec := "merkleRoots", recurses := true, named := ["drogher/sha.cubes"], apart := false, laid := [("drogher/sha.cubes", laid_drogher_sha_cubes)], narrowed := true }
def MerkleRootsUptoSaid : Prop := merkleRootsUptoRow.holds Tryd.pinned (OpenSpec.upto merkleRootsSpec)

/-- 'drogherlaw21.MerkleWays', WHERE WHAT IT READS IS OF BULK AT MOST 1048576: true; the input reads as it did. -/
def merkleWaysUptoRow : OpenClaim := { program := "ytdfgdchmeikigaadoor", sum := "f9383d7779f8149cd7f40811b16eabd318315c60e784b9b81250e5fc02219d02", func := "drogher/drogherlaw21.MerkleWays", spec := "merkleWays", recurses := true, named := ["drogher/sha.cubes"], apart := false, laid := [("drogher/sha.cubes", laid_drogher_sha_cubes)], narrowed := true }
def MerkleWaysUptoSaid : Prop := merkleWaysUptoRow.holds Tryd.pinned (OpenSpec.upto merkleWaysSpec)

/-- 'drogherlaw21.MerkleLeads', WHERE WHAT IT READS IS OF BULK AT MOST 1048576: true; the input reads as it did. -/
def merkleLeadsUptoRow : OpenClaim := { program := "ytdfgdchmeikigaadoor", sum := "f9383d7779f8149cd7f40811b16eabd318315c60e784b9b81250e5fc02219d02", func := "drogher/drogherlaw21.MerkleLeads", spec := "merkleLeads", recurses := true, named := ["drogher/sha.cubes"], apart := false, laid := [("drogher/sha.cubes", laid_drogher_sha_cubes)], narrowed := true }
def MerkleLeadsUptoSaid : Prop := merkleLeadsUptoRow.holds Tryd.pinned (OpenSpec.upto merkleLeadsSpec)

/-- 'drogherlaw21.MerkleBinds', WHERE WHAT IT READS IS OF BULK AT MOST 1048576: true; the input reads as it did. -/
def merkleBindsUptoRow : OpenClaim := { program := "ytdfgdchmeikigaadoor", sum := "f9383d7779f8149cd7f40811b16eabd318315c60e784b9b81250e5fc02219d02", func := "drogher/drogherlaw21.MerkleBinds", spec := "merkleBinds", recurses := true, named := ["drogher/sha.cubes"], apart := false, laid := [("drogher/sha.cubes", laid_drogher_sha_cubes)], narrowed := true }
def MerkleBindsUptoSaid : Prop := merkleBindsUptoRow.holds Tryd.pinned (OpenSpec.upto merkleBindsSpec)

/-- 'drogherlaw24.JournalWrites', WHERE WHAT IT READS IS OF BULK AT MOST 1048576: true; the input reads as it did. -/
def journalWritesUptoRow : OpenClaim := { program := "ytdfgdchmeikigaadoor", sum := "f9383d7779f8149cd7f40811b16eabd318315c60e784b9b81250e5fc02219d02", func := "drogher/drogherlaw24.JournalWrites", spec := "journalWrites", unfollowed := true, recurses := true, named := ["drogher/sha.cubes"], apart := false, laid := [("drogher/sha.cubes", laid_drogher_sha_cubes)], narrowed := true }
def JournalWritesUptoSaid : Prop := journalWritesUptoRow.holds Tryd.pinned (OpenSpec.upto journalWritesSpec)

/-- 'drogherlaw24.JournalReads', WHERE WHAT IT READS IS OF BULK AT MOST 1048576: true; the input reads as it did. -/
def journalReadsUptoRow : OpenClaim := { program := "ytdfgdchmeikigaadoor", sum := "f9383d7779f8149cd7f40811b16eabd318315c60e784b9b81250e5fc02219d02", func := "drogher/drogherlaw24.JournalReads", spec := "journalReads", unfollowed := true, recurses := true, named := ["drogher/sha.cubes"], apart := false, laid := [("drogher/sha.cubes", laid_drogher_sha_cubes)], narrowed := true }
def JournalReadsUptoSaid : Prop := journalReadsUptoRow.holds Tryd.pinned (OpenSpec.upto journalReadsSpec)

end Rows
end Go.Proofs.YtdfgdchmeikigaaDoor
