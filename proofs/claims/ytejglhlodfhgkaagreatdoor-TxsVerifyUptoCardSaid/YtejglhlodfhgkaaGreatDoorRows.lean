/-
  NARROWER THAN 'FOR EVERY INPUT', by the rows' own cells (each row's printed sentence says how): TxsBytes: laid · TxsReads: laid · TxsVerify: laid · BankRuns: laid · BankKeeps: laid · BankSelf: laid · BankNames: laid.
  DERIVED. THE GIVEN ROWS OF THIS SEAT. 7 by the template 'for every input the law returns true; each argument reads behind the call as it read before'; 0 by the template 'total and deterministic' (their statements: YtejglhlodfhgkaaGreatDoorTotals.lean).
  GIVEN WITH THE SEED: the statements are not yours to turn. If you find one false, say at which input.
  Laid BY PROGRAM, IN A SANDBOX (cutbox-rows.mjs): the forced cells as the released guide's own fill.sh prints them over the translation 869714dbc5cc72da… (all of the seat's roots in one cut). By AI agents, Wed Nov 11 2026. No macro, syntax, notation, axiom, sorry.
-/
import Derived.Test.YtejglhlodfhgkaaGreatDoorChecked
import GoSem.PinnedTables
import GoSem.Claim
import GoSem.ClaimJoined
import GoSem.ClaimMapViews
import Derived.JoinedTies
import Derived.KernelRfl
namespace Go.Proofs.YtejglhlodfhgkaaGreatDoor
/- THE CELL 'sum', in the pinned program and in every row, IS THE sha256 OF THE DUMP (.gsa) THAT YtejglhlodfhgkaaGreatDoorProg.lean LOADS. Nothing in Lean hashes anything: it is a label: what it is worth is what the hold of that sum in a sandbox is worth. -/
noncomputable def Tryz.pinned : Pinned := { name := "ytejglhlodfhgkaagreatdoor", sum := "869714dbc5cc72da0ff6dbc0229d2646afd6dfe060004add7676e6948082282e", checked := Tryz.checked }
namespace Rows
def none {H : Type} : Left H := { results := [], args := [] }

/- WHAT THE LISTED PACKAGE-LEVEL VARIABLES READ AS WHEN THE CALL BEGINS. Each datum BY PROGRAM (the guide's laid-datum.mjs) off the statement by which the dump's own 'gosem.cut.vars' lays the variable. In a bare row this is a premise. The card (YtejglhlodfhgkaaGreatDoorCards.lean) ties it to the program's text. -/
def laid_unicode_utf8_acceptRanges {H : Type} : DataW H := .agg [.agg [.lit (.int .u8 128), .lit (.int .u8 191)], .agg [.lit (.int .u8 160), .lit (.int .u8 191)], .agg [.lit (.int .u8 128), .lit (.int .u8 159)], .agg [.lit (.int .u8 144), .lit (.int .u8 191)], .agg [.lit (.int .u8 128), .lit (.int .u8 143)], .agg [.lit (.int .u8 0), .lit (.int .u8 0)], .agg [.lit (.int .u8 0), .lit (.int .u8 0)], .agg [.lit (.int .u8 0), .lit (.int .u8 0)], .agg [.lit (.int .u8 0), .lit (.int .u8 0)], .agg [.lit (.int .u8 0), .lit (.int .u8 0)], .agg [.lit (.int .u8 0), .lit (.int .u8 0)], .agg [.lit (.int .u8 0), .lit (.int .u8 0)], .agg [.lit (.int .u8 0), .lit (.int .u8 0)], .agg [.lit (.int .u8 0), .lit (.int .u8 0)], .agg [.lit (.int .u8 0), .lit (.int .u8 0)], .agg [.lit (.int .u8 0), .lit (.int .u8 0)]]
def laid_errors_errorType {H : Type} : DataW H := .iface "internal/reflectlite.rtype" (.agg [.ptr (.lit (.string [101, 114, 114, 111, 114]))])
def laid_isthmus_txs_shapes {H : Type} : DataW H := .agg [.agg [.lit (.int .i64 0), .lit (.int .i64 0), .lit (.int .i64 0)], .agg [.lit (.int .i64 2), .lit (.int .i64 1), .lit (.int .i64 0)], .agg [.lit (.int .i64 0), .lit (.int .i64 1), .lit (.int .i64 0)], .agg [.lit (.int .i64 0), .lit (.int .i64 1), .lit (.int .i64 0)], .agg [.lit (.int .i64 1), .lit (.int .i64 1), .lit (.int .i64 2)], .agg [.lit (.int .i64 1), .lit (.int .i64 0), .lit (.int .i64 1)], .agg [.lit (.int .i64 1), .lit (.int .i64 0), .lit (.int .i64 2)], .agg [.lit (.int .i64 2), .lit (.int .i64 0), .lit (.int .i64 0)], .agg [.lit (.int .i64 3), .lit (.int .i64 1), .lit (.int .i64 1)], .agg [.lit (.int .i64 2), .lit (.int .i64 1), .lit (.int .i64 1)], .agg [.lit (.int .i64 1), .lit (.int .i64 1), .lit (.int .i64 1)], .agg [.lit (.int .i64 4), .lit (.int .i64 1), .lit (.int .i64 0)], .agg [.lit (.int .i64 5), .lit (.int .i64 2), .lit (.int .i64 1)], .agg [.lit (.int .i64 3), .lit (.int .i64 1), .lit (.int .i64 1)], .agg [.lit (.int .i64 2), .lit (.int .i64 1), .lit (.int .i64 1)], .agg [.lit (.int .i64 5), .lit (.int .i64 3), .lit (.int .i64 0)], .agg [.lit (.int .i64 4), .lit (.int .i64 4), .lit (.int .i64 2)], .agg [.lit (.int .i64 4), .lit (.int .i64 4), .lit (.int .i64 3)], .agg [.lit (.int .i64 4), .lit (.int .i64 4), .lit (.int .i64 2)]]
/-- One of Go's own tables, pinned by name: the form's constant. -/
def laid_unicode_utf8_first : DataW Unit := Go.Pinned.utf8First
def laid_isthmus_sha_begin {H : Type} : DataW H := .agg [.lit (.int .u32 1779033703), .lit (.int .u32 3144134277), .lit (.int .u32 1013904242), .lit (.int .u32 2773480762), .lit (.int .u32 1359893119), .lit (.int .u32 2600822924), .lit (.int .u32 528734635), .lit (.int .u32 1541459225)]
def laid_isthmus_sha_constants {H : Type} : DataW H := .agg [.lit (.int .u32 1116352408), .lit (.int .u32 1899447441), .lit (.int .u32 3049323471), .lit (.int .u32 3921009573), .lit (.int .u32 961987163), .lit (.int .u32 1508970993), .lit (.int .u32 2453635748), .lit (.int .u32 2870763221), .lit (.int .u32 3624381080), .lit (.int .u32 310598401), .lit (.int .u32 607225278), .lit (.int .u32 1426881987), .lit (.int .u32 1925078388), .lit (.int .u32 2162078206), .lit (.int .u32 2614888103), .lit (.int .u32 3248222580), .lit (.int .u32 3835390401), .lit (.int .u32 4022224774), .lit (.int .u32 264347078), .lit (.int .u32 604807628), .lit (.int .u32 770255983), .lit (.int .u32 1249150122), .lit (.int .u32 1555081692), .lit (.int .u32 1996064986), .lit (.int .u32 2554220882), .lit (.int .u32 2821834349), .lit (.int .u32 2952996808), .lit (.int .u32 3210313671), .lit (.int .u32 3336571891), .lit (.int .u32 3584528711), .lit (.int .u32 113926993), .lit (.int .u32 338241895), .lit (.int .u32 666307205), .lit (.int .u32 773529912), .lit (.int .u32 1294757372), .lit (.int .u32 1396182291), .lit (.int .u32 1695183700), .lit (.int .u32 1986661051), .lit (.int .u32 2177026350), .lit (.int .u32 2456956037), .lit (.int .u32 2730485921), .lit (.int .u32 2820302411), .lit (.int .u32 3259730800), .lit (.int .u32 3345764771), .lit (.int .u32 3516065817), .lit (.int .u32 3600352804), .lit (.int .u32 4094571909), .lit (.int .u32 275423344), .lit (.int .u32 430227734), .lit (.int .u32 506948616), .lit (.int .u32 659060556), .lit (.int .u32 883997877), .lit (.int .u32 958139571), .lit (.int .u32 1322822218), .lit (.int .u32 1537002063), .lit (.int .u32 1747873779), .lit (.int .u32 1955562222), .lit (.int .u32 2024104815), .lit (.int .u32 2227730452), .lit (.int .u32 2361852424), .lit (.int .u32 2428436474), .lit (.int .u32 2756734187), .lit (.int .u32 3204031479), .lit (.int .u32 3329325298)]

/-- 'isthmuslaw15.TxsBytes': WHATEVER THE INPUT: true; the input reads as it did. -/
def txsBytesSpec : ChangeSpec := { name := "txsBytes", fn := fun _ => fun
  | [d1, d2] => { results := [.lit (.bool true)], args := [d1, d2] }
  | _ => none }
def txsBytesRow : OpenClaim := { program := "ytejglhlodfhgkaagreatdoor", sum := "869714dbc5cc72da0ff6dbc0229d2646afd6dfe060004add7676e6948082282e", func := "isthmus/isthmuslaw15.TxsBytes", spec := "txsBytes", inPlace := ["internal/bytealg.IndexByteString", "internal/bytealg.IndexString", "internal/reflectlite.ValueOf", "(internal/reflectlite.Value).Type", "(internal/reflectlite.Value).IsNil", "internal/reflectlite.TypeOf", "(internal/reflectlite.Value).Elem", "(internal/reflectlite.Value).Set"], unfollowed := true, recurses := true, named := ["unicode/utf8.first", "unicode/utf8.acceptRanges", "isthmus/txs.shapes", "errors.errorType", "internal/bytealg.MaxLen"], apart := false, laid := [("unicode/utf8.acceptRanges", laid_unicode_utf8_acceptRanges), ("errors.errorType", laid_errors_errorType), ("isthmus/txs.shapes", laid_isthmus_txs_shapes), ("unicode/utf8.first", laid_unicode_utf8_first)] }
def TxsBytesSaid : Prop := txsBytesRow.holds Tryz.pinned (OpenSpec.ofChange txsBytesSpec)

/-- ITS FALSE NEIGHBOUR: 'it returns false'. Refute it at one input. -/
def txsBytesWrong : ChangeSpec := { name := "txsBytes", fn := fun _ => fun
  | [d1, d2] => { results := [.lit (.bool false)], args := [d1, d2] }
  | _ => none }
def TxsBytesWrongFalsely : Prop := txsBytesRow.holds Tryz.pinned (OpenSpec.ofChange txsBytesWrong)

/-- 'isthmuslaw15.TxsReads': WHATEVER THE INPUT: true; the input reads as it did. -/
def txsReadsSpec : ChangeSpec := { name := "txsReads", fn := fun _ => fun
  | [d1, d2] => { results := [.lit (.bool true)], args := [d1, d2] }
  | _ => none }
def txsReadsRow : OpenClaim := { program := "ytejglhlodfhgkaagreatdoor", sum := "869714dbc5cc72da0ff6dbc0229d2646afd6dfe060004add7676e6948082282e", func := "isthmus/isthmuslaw15.TxsReads", spec := "txsReads", inPlace := ["internal/bytealg.IndexByteString", "internal/bytealg.IndexString", "internal/reflectlite.ValueOf", "(internal/reflectlite.Value).Type", "(internal/reflectlite.Value).IsNil", "internal/reflectlite.TypeOf", "(internal/reflectlite.Value).Elem", "(internal/reflectlite.Value).Set"], unfollowed := true, recurses := true, named := ["unicode/utf8.first", "unicode/utf8.acceptRanges", "isthmus/txs.shapes", "errors.errorType", "isthmus/sha.begin", "isthmus/sha.constants", "internal/bytealg.MaxLen"], apart := false, laid := [("unicode/utf8.acceptRanges", laid_unicode_utf8_acceptRanges), ("errors.errorType", laid_errors_errorType), ("isthmus/sha.begin", laid_isthmus_sha_begin), ("isthmus/sha.constants", laid_isthmus_sha_constants), ("isthmus/txs.shapes", laid_isthmus_txs_shapes), ("unicode/utf8.first", laid_unicode_utf8_first)] }
def TxsReadsSaid : Prop := txsReadsRow.holds Tryz.pinned (OpenSpec.ofChange txsReadsSpec)

/-- ITS FALSE NEIGHBOUR: 'it returns false'. Refute it at one input. -/
def txsReadsWrong : ChangeSpec := { name := "txsReads", fn := fun _ => fun
  | [d1, d2] => { results := [.lit (.bool false)], args := [d1, d2] }
  | _ => none }
def TxsReadsWrongFalsely : Prop := txsReadsRow.holds Tryz.pinned (OpenSpec.ofChange txsReadsWrong)

/-- 'isthmuslaw15.TxsVerify': WHATEVER THE INPUT: true; the input reads as it did. -/
def txsVerifySpec : ChangeSpec := { name := "txsVerify", fn := fun _ => fun
  | [d1, d2, d3] => { results := [.lit (.bool true)], args := [d1, d2, d3] }
  | _ => none }
def txsVerifyRow : OpenClaim := { program := "ytejglhlodfhgkaagreatdoor", sum := "869714dbc5cc72da0ff6dbc0229d2646afd6dfe060004add7676e6948082282e", func := "isthmus/isthmuslaw15.TxsVerify", spec := "txsVerify", inPlace := ["internal/bytealg.IndexByteString", "internal/bytealg.IndexString", "internal/reflectlite.ValueOf", "(internal/reflectlite.Value).Type", "(internal/reflectlite.Value).IsNil", "internal/reflectlite.TypeOf", "(internal/reflectlite.Value).Elem", "(internal/reflectlite.Value).Set"], unfollowed := true, recurses := true, named := ["unicode/utf8.first", "unicode/utf8.acceptRanges", "isthmus/txs.shapes", "isthmus/sha.begin", "isthmus/sha.constants", "errors.errorType", "internal/bytealg.MaxLen"], apart := false, laid := [("unicode/utf8.acceptRanges", laid_unicode_utf8_acceptRanges), ("errors.errorType", laid_errors_errorType), ("isthmus/sha.begin", laid_isthmus_sha_begin), ("isthmus/sha.constants", laid_isthmus_sha_constants), ("isthmus/txs.shapes", laid_isthmus_txs_shapes), ("unicode/utf8.first", laid_unicode_utf8_first)] }
def TxsVerifySaid : Prop := txsVerifyRow.holds Tryz.pinned (OpenSpec.ofChange txsVerifySpec)

/-- ITS FALSE NEIGHBOUR: 'it returns false'. Refute it at one input. -/
def txsVerifyWrong : ChangeSpec := { name := "txsVerify", fn := fun _ => fun
  | [d1, d2, d3] => { results := [.lit (.bool false)], args := [d1, d2, d3] }
  | _ => none }
def TxsVerifyWrongFalsely : Prop := txsVerifyRow.holds Tryz.pinned (OpenSpec.ofChange txsVerifyWrong)

/-- 'isthmuslaw16.BankRuns': WHATEVER THE INPUT: true; the input reads as it did. -/
def bankRunsSpec : ChangeSpec := { name := "bankRuns", fn := fun _ => fun
  | [d] => { results := [.lit (.bool true)], args := [d] }
  | _ => none }
def bankRunsRow : OpenClaim := { program := "ytejglhlodfhgkaagreatdoor", sum := "869714dbc5cc72da0ff6dbc0229d2646afd6dfe060004add7676e6948082282e", func := "isthmus/isthmuslaw16.BankRuns", spec := "bankRuns", inPlace := ["internal/bytealg.IndexByteString", "internal/bytealg.IndexString", "internal/reflectlite.ValueOf", "(internal/reflectlite.Value).Type", "(internal/reflectlite.Value).IsNil", "internal/reflectlite.TypeOf", "(internal/reflectlite.Value).Elem", "(internal/reflectlite.Value).Set"], unfollowed := true, recurses := true, named := ["internal/bytealg.MaxLen", "isthmus/sha.begin", "isthmus/sha.constants", "unicode/utf8.first", "unicode/utf8.acceptRanges", "errors.errorType"], apart := false, laid := [("unicode/utf8.acceptRanges", laid_unicode_utf8_acceptRanges), ("errors.errorType", laid_errors_errorType), ("isthmus/sha.begin", laid_isthmus_sha_begin), ("isthmus/sha.constants", laid_isthmus_sha_constants), ("unicode/utf8.first", laid_unicode_utf8_first)] }
def BankRunsSaid : Prop := bankRunsRow.holds Tryz.pinned (OpenSpec.ofChange bankRunsSpec)

/-- ITS FALSE NEIGHBOUR: 'it returns false'. Refute it at one input. -/
def bankRunsWrong : ChangeSpec := { name := "bankRuns", fn := fun _ => fun
  | [d] => { results := [.lit (.bool false)], args := [d] }
  | _ => none }
def BankRunsWrongFalsely : Prop := bankRunsRow.holds Tryz.pinned (OpenSpec.ofChange bankRunsWrong)

/-- 'isthmuslaw16.BankKeeps': WHATEVER THE INPUT: true; the input reads as it did. -/
def bankKeepsSpec : ChangeSpec := { name := "bankKeeps", fn := fun _ => fun
  | [d] => { results := [.lit (.bool true)], args := [d] }
  | _ => none }
def bankKeepsRow : OpenClaim := { program := "ytejglhlodfhgkaagreatdoor", sum := "869714dbc5cc72da0ff6dbc0229d2646afd6dfe060004add7676e6948082282e", func := "isthmus/isthmuslaw16.BankKeeps", spec := "bankKeeps", inPlace := ["internal/bytealg.IndexByteString", "internal/bytealg.IndexString", "internal/reflectlite.ValueOf", "(internal/reflectlite.Value).Type", "(internal/reflectlite.Value).IsNil", "internal/reflectlite.TypeOf", "(internal/reflectlite.Value).Elem", "(internal/reflectlite.Value).Set"], unfollowed := true, recurses := true, named := ["internal/bytealg.MaxLen", "unicode/utf8.first", "unicode/utf8.acceptRanges", "isthmus/sha.begin", "isthmus/sha.constants", "errors.errorType"], apart := false, laid := [("unicode/utf8.acceptRanges", laid_unicode_utf8_acceptRanges), ("errors.errorType", laid_errors_errorType), ("isthmus/sha.begin", laid_isthmus_sha_begin), ("isthmus/sha.constants", laid_isthmus_sha_constants), ("unicode/utf8.first", laid_unicode_utf8_first)] }
def BankKeepsSaid : Prop := bankKeepsRow.holds Tryz.pinned (OpenSpec.ofChange bankKeepsSpec)

/-- ITS FALSE NEIGHBOUR: 'it returns false'. Refute it at one input. -/
def bankKeepsWrong : ChangeSpec := { name := "bankKeeps", fn := fun _ => fun
  | [d] => { results := [.lit (.bool false)], args := [d] }
  | _ => none }
def BankKeepsWrongFalsely : Prop := bankKeepsRow.holds Tryz.pinned (OpenSpec.ofChange bankKeepsWrong)

/-- 'isthmuslaw16.BankSelf': WHATEVER THE INPUT: true; the input reads as it did. -/
def bankSelfSpec : ChangeSpec := { name := "bankSelf", fn := fun _ => fun
  | [d1, d2, d3] => { results := [.lit (.bool true)], args := [d1, d2, d3] }
  | _ => none }
def bankSelfRow : OpenClaim := { program := "ytejglhlodfhgkaagreatdoor", sum := "869714dbc5cc72da0ff6dbc0229d2646afd6dfe060004add7676e6948082282e", func := "isthmus/isthmuslaw16.BankSelf", spec := "bankSelf", inPlace := ["internal/bytealg.IndexByteString", "internal/bytealg.IndexString", "internal/reflectlite.ValueOf", "(internal/reflectlite.Value).Type", "(internal/reflectlite.Value).IsNil", "internal/reflectlite.TypeOf", "(internal/reflectlite.Value).Elem", "(internal/reflectlite.Value).Set"], unfollowed := true, recurses := true, named := ["internal/bytealg.MaxLen", "unicode/utf8.first", "unicode/utf8.acceptRanges", "isthmus/sha.begin", "isthmus/sha.constants", "errors.errorType"], apart := false, laid := [("unicode/utf8.acceptRanges", laid_unicode_utf8_acceptRanges), ("errors.errorType", laid_errors_errorType), ("isthmus/sha.begin", laid_isthmus_sha_begin), ("isthmus/sha.constants", laid_isthmus_sha_constants), ("unicode/utf8.first", laid_unicode_utf8_first)] }
def BankSelfSaid : Prop := bankSelfRow.holds Tryz.pinned (OpenSpec.ofChange bankSelfSpec)

/-- ITS FALSE NEIGHBOUR: 'it returns false'. Refute it at one input. -/
def bankSelfWrong : ChangeSpec := { name := "bankSelf", fn := fun _ => fun
  | [d1, d2, d3] => { results := [.lit (.bool false)], args := [d1, d2, d3] }
  | _ => none }
def BankSelfWrongFalsely : Prop := bankSelfRow.holds Tryz.pinned (OpenSpec.ofChange bankSelfWrong)

/-- 'isthmuslaw16.BankNames': WHATEVER THE INPUT: true; the input reads as it did. -/
def bankNamesSpec : ChangeSpec := { name := "bankNames", fn := fun _ => fun
  | [d] => { results := [.lit (.bool true)], args := [d] }
  | _ => none }
def bankNamesRow : OpenClaim := { program := "ytejglhlodfhgkaagreatdoor", sum := "869714dbc5cc72da0ff6dbc0229d2646afd6dfe060004add7676e6948082282e", func := "isthmus/isthmuslaw16.BankNames", spec := "bankNames", inPlace := ["internal/bytealg.IndexByteString", "internal/bytealg.IndexString", "internal/reflectlite.ValueOf", "(internal/reflectlite.Value).Type", "(internal/reflectlite.Value).IsNil", "internal/reflectlite.TypeOf", "(internal/reflectlite.Value).Elem", "(internal/reflectlite.Value).Set"], unfollowed := true, recurses := true, named := ["internal/bytealg.MaxLen", "isthmus/sha.begin", "isthmus/sha.constants", "unicode/utf8.first", "unicode/utf8.acceptRanges", "errors.errorType"], apart := false, laid := [("unicode/utf8.acceptRanges", laid_unicode_utf8_acceptRanges), ("errors.errorType", laid_errors_errorType), ("isthmus/sha.begin", laid_isthmus_sha_begin), ("isthmus/sha.constants", laid_isthmus_sha_constants), ("unicode/utf8.first", laid_unicode_utf8_first)] }
def BankNamesSaid : Prop := bankNamesRow.holds Tryz.pinned (OpenSpec.ofChange bankNamesSpec)

/-- ITS FALSE NEIGHBOUR: 'it returns false'. Refute it at one input. -/
def bankNamesWrong : ChangeSpec := { name := "bankNames", fn := fun _ => fun
  | [d] => { results := [.lit (.bool false)], args := [d] }
  | _ => none }
def BankNamesWrongFalsely : Prop := bankNamesRow.holds Tryz.pinned (OpenSpec.ofChange bankNamesWrong)

/- THE SECOND FORM. 'bulk': how many values and letters a reading holds, each counted each time it is reached (what is shared counts as often as it is met; a slice's spare places count too). A statement '..UptoSaid' is the law's where the arguments, and the package variables that the reading takes, are together of bulk at most 1048576: NARROWER than '..Said'. Prove '..Said' where nothing that the law and all that it calls make is longer than what came in: it says more and counts as full. Else prove '..UptoSaid'. A law counts once. -/
mutual
def uptoBulk {H : Type} : DataW H → Nat
  | .lit (.string bytes) => bytes.length + 1
  | .lit _ => 1
  | .nil => 1
  | .ptr d => uptoBulk d + 1
  | .slice elems spare => uptoBulkAll elems + uptoBulkAll spare + 1
  | .agg parts => uptoBulkAll parts + 1
  | .iface _ d => uptoBulk d + 1
  | .map entries => uptoBulkEntries entries + 1
  | .held _ => 1
def uptoBulkAll {H : Type} : List (DataW H) → Nat
  | [] => 0
  | d :: r => uptoBulk d + uptoBulkAll r
def uptoBulkEntries {H : Type} : List (Lit × DataW H) → Nat
  | [] => 0
  | x :: r => uptoBulkEntry x + uptoBulkEntries r
def uptoBulkEntry {H : Type} : Lit × DataW H → Nat
  | (.string bytes, d) => bytes.length + uptoBulk d + 1
  | (_, d) => uptoBulk d + 1
 end
def uptoSmall : (H : Type) → List (DataW H) → Bool := fun _ ds => decide (uptoBulkAll ds ≤ 1048576)
def OpenSpec.upto (s : _root_.Go.ChangeSpec) : _root_.Go.OpenSpec := { _root_.Go.OpenSpec.ofChange s with cond := some uptoSmall }

/-- 'isthmuslaw15.TxsBytes', WHERE WHAT IT READS IS OF BULK AT MOST 1048576: true; the input reads as it did. -/
def txsBytesUptoRow : OpenClaim := { program := "ytejglhlodfhgkaagreatdoor", sum := "869714dbc5cc72da0ff6dbc0229d2646afd6dfe060004add7676e6948082282e", func := "isthmus/isthmuslaw15.TxsBytes", spec := "txsBytes", inPlace := ["internal/bytealg.IndexByteString", "internal/bytealg.IndexString", "internal/reflectlite.ValueOf", "(internal/reflectlite.Value).Type", "(internal/reflectlite.Value).IsNil", "internal/reflectlite.TypeOf", "(internal/reflectlite.Value).Elem", "(internal/reflectlite.Value).Set"], unfollowed := true, recurses := true, named := ["unicode/utf8.first", "unicode/utf8.acceptRanges", "isthmus/txs.shapes", "errors.errorType", "internal/bytealg.MaxLen"], apart := false, laid := [("unicode/utf8.acceptRanges", laid_unicode_utf8_acceptRanges), ("errors.errorType", laid_errors_errorType), ("isthmus/txs.shapes", laid_isthmus_txs_shapes), ("unicode/utf8.first", laid_unicode_utf8_first)], narrowed := true }
def TxsBytesUptoSaid : Prop := txsBytesUptoRow.holds Tryz.pinned (OpenSpec.upto txsBytesSpec)

/-- 'isthmuslaw15.TxsReads', WHERE WHAT IT READS IS OF BULK AT MOST 1048576: true; the input reads as it did. -/
def txsReadsUptoRow : OpenClaim := { program := "ytejglhlodfhgkaagreatdoor", sum := "869714dbc5cc72da0ff6dbc0229d2646afd6dfe060004add7676e6948082282e", func := "isthmus/isthmuslaw15.TxsReads", spec := "txsReads", inPlace := ["internal/bytealg.IndexByteString", "internal/bytealg.IndexString", "internal/reflectlite.ValueOf", "(internal/reflectlite.Value).Type", "(internal/reflectlite.Value).IsNil", "internal/reflectlite.TypeOf", "(internal/reflectlite.Value).Elem", "(internal/reflectlite.Value).Set"], unfollowed := true, recurses := true, named := ["unicode/utf8.first", "unicode/utf8.acceptRanges", "isthmus/txs.shapes", "errors.errorType", "isthmus/sha.begin", "isthmus/sha.constants", "internal/bytealg.MaxLen"], apart := false, laid := [("unicode/utf8.acceptRanges", laid_unicode_utf8_acceptRanges), ("errors.errorType", laid_errors_errorType), ("isthmus/sha.begin", laid_isthmus_sha_begin), ("isthmus/sha.constants", laid_isthmus_sha_constants), ("isthmus/txs.shapes", laid_isthmus_txs_shapes), ("unicode/utf8.first", laid_unicode_utf8_first)], narrowed := true }
def TxsReadsUptoSaid : Prop := txsReadsUptoRow.holds Tryz.pinned (OpenSpec.upto txsReadsSpec)

/-- 'isthmuslaw15.TxsVerify', WHERE WHAT IT READS IS OF BULK AT MOST 1048576: true; the input reads as it did. -/
def txsVerifyUptoRow : OpenClaim := { program := "ytejglhlodfhgkaagreatdoor", sum := "869714dbc5cc72da0ff6dbc0229d2646afd6dfe060004add7676e6948082282e", func := "isthmus/isthmuslaw15.TxsVerify", spec := "txsVerify", inPlace := ["internal/bytealg.IndexByteString", "internal/bytealg.IndexString", "internal/reflectlite.ValueOf", "(internal/reflectlite.Value).Type", "(internal/reflectlite.Value).IsNil", "internal/reflectlite.TypeOf", "(internal/reflectlite.Value).Elem", "(internal/reflectlite.Value).Set"], unfollowed := true, recurses := true, named := ["unicode/utf8.first", "unicode/utf8.acceptRanges", "isthmus/txs.shapes", "isthmus/sha.begin", "isthmus/sha.constants", "errors.errorType", "internal/bytealg.MaxLen"], apart := false, laid := [("unicode/utf8.acceptRanges", laid_unicode_utf8_acceptRanges), ("errors.errorType", laid_errors_errorType), ("isthmus/sha.begin", laid_isthmus_sha_begin), ("isthmus/sha.constants", laid_isthmus_sha_constants), ("isthmus/txs.shapes", laid_isthmus_txs_shapes), ("unicode/utf8.first", laid_unicode_utf8_first)], narrowed := true }
def TxsVerifyUptoSaid : Prop := txsVerifyUptoRow.holds Tryz.pinned (OpenSpec.upto txsVerifySpec)

/-- 'isthmuslaw16.BankRuns', WHERE WHAT IT READS IS OF BULK AT MOST 1048576: true; the input reads as it did. -/
def bankRunsUptoRow : OpenClaim := { program := "ytejglhlodfhgkaagreatdoor", sum := "869714dbc5cc72da0ff6dbc0229d2646afd6dfe060004add7676e6948082282e", func := "isthmus/isthmuslaw16.BankRuns", spec := "bankRuns", inPlace := ["internal/bytealg.IndexByteString", "internal/bytealg.IndexString", "internal/reflectlite.ValueOf", "(internal/reflectlite.Value).Type", "(internal/reflectlite.Value).IsNil", "internal/reflectlite.TypeOf", "(internal/reflectlite.Value).Elem", "(internal/reflectlite.Value).Set"], unfollowed := true, recurses := true, named := ["internal/bytealg.MaxLen", "isthmus/sha.begin", "isthmus/sha.constants", "unicode/utf8.first", "unicode/utf8.acceptRanges", "errors.errorType"], apart := false, laid := [("unicode/utf8.acceptRanges", laid_unicode_utf8_acceptRanges), ("errors.errorType", laid_errors_errorType), ("isthmus/sha.begin", laid_isthmus_sha_begin), ("isthmus/sha.constants", laid_isthmus_sha_constants), ("unicode/utf8.first", laid_unicode_utf8_first)], narrowed := true }
def BankRunsUptoSaid : Prop := bankRunsUptoRow.holds Tryz.pinned (OpenSpec.upto bankRunsSpec)

/-- 'isthmuslaw16.BankKeeps', WHERE WHAT IT READS IS OF BULK AT MOST 1048576: true; the input reads as it did. -/
def bankKeepsUptoRow : OpenClaim := { program := "ytejglhlodfhgkaagreatdoor", sum := "869714dbc5cc72da0ff6dbc0229d2646afd6dfe060004add7676e6948082282e", func := "isthmus/isthmuslaw16.BankKeeps", spec := "bankKeeps", inPlace := ["internal/bytealg.IndexByteString", "internal/bytealg.IndexString", "internal/reflectlite.ValueOf", "(internal/reflectlite.Value).Type", "(internal/reflectlite.Value).IsNil", "internal/reflectlite.TypeOf", "(internal/reflectlite.Value).Elem", "(internal/reflectlite.Value).Set"], unfollowed := true, recurses := true, named := ["internal/bytealg.MaxLen", "unicode/utf8.first", "unicode/utf8.acceptRanges", "isthmus/sha.begin", "isthmus/sha.constants", "errors.errorType"], apart := false, laid := [("unicode/utf8.acceptRanges", laid_unicode_utf8_acceptRanges), ("errors.errorType", laid_errors_errorType), ("isthmus/sha.begin", laid_isthmus_sha_begin), ("isthmus/sha.constants", laid_isthmus_sha_constants), ("unicode/utf8.first", laid_unicode_utf8_first)], narrowed := true }
def BankKeepsUptoSaid : Prop := bankKeepsUptoRow.holds Tryz.pinned (OpenSpec.upto bankKeepsSpec)

/-- 'isthmuslaw16.BankSelf', WHERE WHAT IT READS IS OF BULK AT MOST 1048576: true; the input reads as it did. -/
def bankSelfUptoRow : OpenClaim := { program := "ytejglhlodfhgkaagreatdoor", sum := "869714dbc5cc72da0ff6dbc0229d2646afd6dfe060004add7676e6948082282e", func := "isthmus/isthmuslaw16.BankSelf", spec := "bankSelf", inPlace := ["internal/bytealg.IndexByteString", "internal/bytealg.IndexString", "internal/reflectlite.ValueOf", "(internal/reflectlite.Value).Type", "(internal/reflectlite.Value).IsNil", "internal/reflectlite.TypeOf", "(internal/reflectlite.Value).Elem", "(internal/reflectlite.Value).Set"], unfollowed := true, recurses := true, named := ["internal/bytealg.MaxLen", "unicode/utf8.first", "unicode/utf8.acceptRanges", "isthmus/sha.begin", "isthmus/sha.constants", "errors.errorType"], apart := false, laid := [("unicode/utf8.acceptRanges", laid_unicode_utf8_acceptRanges), ("errors.errorType", laid_errors_errorType), ("isthmus/sha.begin", laid_isthmus_sha_begin), ("isthmus/sha.constants", laid_isthmus_sha_constants), ("unicode/utf8.first", laid_unicode_utf8_first)], narrowed := true }
def BankSelfUptoSaid : Prop := bankSelfUptoRow.holds Tryz.pinned (OpenSpec.upto bankSelfSpec)

/-- 'isthmuslaw16.BankNames', WHERE WHAT IT READS IS OF BULK AT MOST 1048576: true; the input reads as it did. -/
def bankNamesUptoRow : OpenClaim := { program := "ytejglhlodfhgkaagreatdoor", sum := "869714dbc5cc72da0ff6dbc0229d2646afd6dfe060004add7676e6948082282e", func := "isthmus/isthmuslaw16.BankNames", spec := "bankNames", inPlace := ["internal/bytealg.IndexByteString", "internal/bytealg.IndexString", "internal/reflectlite.ValueOf", "(internal/reflectlite.Value).Type", "(internal/reflectlite.Value).IsNil", "internal/reflectlite.TypeOf", "(internal/reflectlite.Value).Elem", "(internal/reflectlite.Value).Set"], unfollowed := true, recurses := true, named := ["internal/bytealg.MaxLen", "isthmus/sha.begin", "isthmus/sha.constants", "unicode/utf8.first", "unicode/utf8.acceptRanges", "errors.errorType"], apart := false, laid := [("unicode/utf8.acceptRanges", laid_unicode_utf8_acceptRanges), ("errors.errorType", laid_errors_errorType), ("isthmus/sha.begin", laid_isthmus_sha_begin), ("isthmus/sha.constants", laid_isthmus_sha_constants), ("unicode/utf8.first", laid_unicode_utf8_first)], narrowed := true }
def BankNamesUptoSaid : Prop := bankNamesUptoRow.holds Tryz.pinned (OpenSpec.upto bankNamesSpec)

end Rows
end Go.Proofs.YtejglhlodfhgkaaGreatDoor
