/- Schemas in plain mathematics: fields, messages, enumerations, methods; their cells. -/
import Derived.WalkKit
namespace Go.Proofs.Ytmgbhicogmclgaa

structure FlS where
  name : ByteArray
  tag : Int
  label : Int
  kind : Int
  tname : ByteArray
structure MsS where
  name : ByteArray
  fields : List FlS
  reserved : List Int
structure NmS where
  name : ByteArray
  n : Int
structure EnS where
  name : ByteArray
  values : List NmS
structure MtS where
  name : ByteArray
  inn : ByteArray
  out : ByteArray
structure ScS where
  name : ByteArray
  msgs : List MsS
  enums : List EnS
  methods : List MtS
def FlS.cells (f : FlS) : List Value := [.string f.name, .int .i64 f.tag, .int .i64 f.label, .int .i64 f.kind, .string f.tname]
def NmS.cells (f : NmS) : List Value := [.string f.name, .int .i64 f.n]
def MtS.cells (f : MtS) : List Value := [.string f.name, .string f.inn, .string f.out]
def zeroS : ScS := ⟨⟨#[]⟩, [], [], []⟩
end Go.Proofs.Ytmgbhicogmclgaa
