/-
  Contracts on datagrams: whether it is one, of the program and of the model.
-/
import Derived.Test.YteflhnmoceppgaaDoorWalks4
import Derived.Test.YteflhnmoceppgaaDoorStrs
namespace Go.Proofs.YteflhnmoceppgaaDoor
open Go.RowKit Go.PlainAid

/-- a datagram's fields -/
structure IpV where
  tos : Int
  id : Int
  df : Bool
  mf : Bool
  off : Int
  ttl : Int
  pro : Int
  src : Int
  dst : Int
  opts : ByteArray
  data : ByteArray
/-- the cells of a datagram -/
def ipL (p : IpV) : Array Value := #[.int .i64 p.tos, .int .i64 p.id, .bool p.df, .bool p.mf, .int .i64 p.off, .int .i64 p.ttl, .int .i64 p.pro, .int .i64 p.src, .int .i64 p.dst, .string p.opts, .string p.data]

def byteB (n : Int) : Bool := inB n 0 255
def addrB (n : Int) : Bool := inB n 0 4294967295
def optsB (o : ByteArray) : Bool := decide (o.size ≤ 40) && decide (o.size % 4 = 0)
def lenB (p : IpV) : Bool := decide (20 + p.opts.size + p.data.size ≤ 65535)
def endB (p : IpV) : Bool := decide (8 * p.off + (p.data.size : Int) ≤ 65515)
def mulB (p : IpV) : Bool := !p.mf || decide (p.data.size % 8 = 0)
def placeB (p : IpV) : Bool := inB p.off 0 8191 && lenB p && endB p && mulB p
def ipOk (p : IpV) : Bool := byteB p.tos && inB p.id 0 65535 && byteB p.ttl && byteB p.pro && addrB p.src && addrB p.dst && optsB p.opts && placeB p

end Go.Proofs.YteflhnmoceppgaaDoor
