/- Tickets, as the chapter says of them: pure. -/
import Derived.Test.YtmopkfjnjbimnaaKbe
namespace Go.Proofs.Ytmopkfjnjbimnaa

/-- A coupon: its flight, day, value, status, holder, next one. -/
structure CpD where
  fl : Int
  dy : Int
  va : Int
  st : Int
  ho : Int
  nx : Nat
deriving DecidableEq
/-- A tax: its code, its amount. -/
structure TxD where
  co : Int
  am : Int
deriving DecidableEq
/-- An event: its day, coupon, from, to. -/
structure EvT where
  dy : Int
  cp : Int
  fr : Int
  tw : Int
deriving DecidableEq
/-- A ticket. -/
structure TkD where
  num : Nat
  loc : ByteArray
  iss : Int
  cps : List CpD
  txs : List TxD
  prv : Nat
  org : Nat
  fst : Nat
  vou : Int
  pos : Int
  his : List EvT
deriving DecidableEq
def noTk : TkD := ⟨0, .empty, 0, [], [], 0, 0, 0, 0, 0, []⟩
def i64B (n : Int) : Prop := -9223372036854775808 ≤ n ∧ n ≤ 9223372036854775807
def u64B (n : Nat) : Prop := n < 18446744073709551616
/-- What came in as a ticket holds numbers that its types can hold. -/
structure CpOk (c : CpD) : Prop where
  fl : i64B c.fl
  dy : i64B c.dy
  va : i64B c.va
  st : i64B c.st
  ho : i64B c.ho
  nx : u64B c.nx
structure TxOk (x : TxD) : Prop where
  co : i64B x.co
  am : i64B x.am
structure EvtOk (x : EvT) : Prop where
  dy : i64B x.dy
  cp : i64B x.cp
  fr : i64B x.fr
  tw : i64B x.tw
structure TkOk (t : TkD) : Prop where
  num : u64B t.num
  loc : t.loc.size ≤ Go.maxLen
  iss : i64B t.iss
  cps : ∀ c ∈ t.cps, CpOk c
  txs : ∀ x ∈ t.txs, TxOk x
  prv : u64B t.prv
  org : u64B t.org
  fst : u64B t.fst
  vou : i64B t.vou
  pos : i64B t.pos
  his : ∀ x ∈ t.his, EvtOk x

def dayB (n : Int) : Bool := decide (0 ≤ n ∧ n ≤ 1000000)
def someB (n : Int) : Bool := decide (0 ≤ n ∧ n ≤ 1000000000000)
def numB (n : Nat) : Bool := decide (chkE n = 0)
/-- May a number be what a coupon of a status has, as its holder or its next one? -/
def withB (number : Nat) (s : Int) (w : Nat) : Bool :=
  if s = 9 then decide (101 ≤ w ∧ w ≤ 1000 ∧ w ≠ carN number + 1) else if s = 5 then numB w && decide (w ≠ number) else decide (w = 0)
def cpB (number : Nat) (c : CpD) : Bool :=
  decide (1 ≤ c.fl ∧ c.fl ≤ 9999) && dayB c.dy && someB c.va && mayS c.st && decide (0 ≤ c.ho) && (decide (c.st = 9) || decide (c.ho = 0)) && (decide (c.st = 5) || decide (c.nx = 0)) &&
    (if c.st = 9 then withB number 9 c.ho.toNat else withB number c.st c.nx)
/-- An event on: what the coupons are, what they were at a day, the day of the last event. -/
def evOn (till : Int) (s : List Int × List Int × Int) (x : EvT) : Option (List Int × List Int × Int) :=
  if 1 ≤ x.cp ∧ x.cp ≤ s.1.length ∧ s.2.2 ≤ x.dy ∧ x.dy ≤ 1000000 ∧ s.1[(x.cp - 1).toNat]? = some x.fr ∧ leadsS x.fr x.tw = true then
    some (s.1.set (x.cp - 1).toNat x.tw, if x.dy ≤ till then s.2.1.set (x.cp - 1).toNat x.tw else s.2.1, x.dy) else none
def evsOn (till : Int) : List Int × List Int × Int → List EvT → Option (List Int × List Int × Int)
  | s, [] => some s
  | s, x :: l => (evOn till s x).bind fun r => evsOn till r l
def thenT (t : TkD) (till : Int) : Option (List Int) :=
  match evsOn till (List.replicate t.cps.length 1, List.replicate t.cps.length 1, t.iss) t.his with
  | some (now, was, _) => if now = t.cps.map CpD.st then some was else none
  | none => none
/-- Taxes: codes rise, amounts are some. -/
def txsB : Int → List TxD → Bool
  | _, [] => true
  | p, x :: l => decide (1 ≤ x.co ∧ x.co ≤ 99) && decide (p < x.co) && someB x.am && txsB x.co l
def headB (t : TkD) : Bool :=
  numB t.num && locB t.loc.data.toList && dayB t.iss && numB t.fst && decide (0 ≤ t.vou ∧ t.vou ≤ 1125899906842624) && decide (0 ≤ t.pos ∧ t.pos ≤ 200)
def chainB (t : TkD) : Bool := if t.prv = 0 then decide (t.org = t.num) else numB t.prv && decide (t.prv ≠ t.num) && numB t.org && decide (t.org ≠ t.num)
def sizeB (t : TkD) : Bool := decide (1 ≤ t.cps.length ∧ t.cps.length ≤ 4 ∧ t.txs.length ≤ 4 ∧ t.his.length ≤ 60)
def mayT (t : TkD) : Bool := headB t && chainB t && sizeB t && t.cps.all (cpB t.num) && txsB 0 t.txs && (thenT t 0).isSome
/-- Its bytes. -/
def cpBy (c : CpD) : List UInt8 := be c.fl.toNat 2 ++ be c.dy.toNat 4 ++ be c.va.toNat 8 ++ be c.st.toNat 1 ++ be c.ho.toNat 2 ++ be c.nx 8
def txBy (x : TxD) : List UInt8 := be x.co.toNat 1 ++ be x.am.toNat 8
def evBy (x : EvT) : List UInt8 := be x.dy.toNat 4 ++ be x.cp.toNat 1 ++ be x.fr.toNat 1 ++ be x.tw.toNat 1
def headBy (t : TkD) : List UInt8 := be t.num 8 ++ t.loc.data.toList ++ be t.iss.toNat 4 ++ be t.prv 8 ++ be t.org 8 ++ be t.fst 8 ++ be t.vou.toNat 8
def bytesT (t : TkD) : List UInt8 :=
  headBy t ++ be t.cps.length 1 ++ (t.cps.map cpBy).flatten ++ be t.txs.length 1 ++ (t.txs.map txBy).flatten ++ be t.pos.toNat 1 ++ be t.his.length 1 ++ (t.his.map evBy).flatten
/-- What its coupons of some statuses are worth; its taxes; how many live. -/
def sumT (t : TkD) (l : List Int) : Int := ((t.cps.filter fun c => l.isEmpty || l.contains c.st).map CpD.va).sum
def taxT (t : TkD) : Int := (t.txs.map TxD.am).sum
def liveT (t : TkD) : Nat := (t.cps.filter fun c => liveS c.st).length
/-- The day from which on a ticket may be changed. -/
def lastT (t : TkD) : Int := (t.his.getLast?.map EvT.dy).getD t.iss
/-- What a change makes, and its error. -/
def chgE (t : TkD) (c d s : Int) (w : Nat) : Nat :=
  if mayT t = true ∧ 1 ≤ c ∧ c ≤ t.cps.length ∧ withB t.num s w = true then
    (if leadsS ((t.cps.map CpD.st).getD (c - 1).toNat 0) s = true then (if lastT t ≤ d ∧ d ≤ 1000000 then (if t.his.length = 60 then 8 else 0) else 15) else 9) else 2
def chgCp (c : CpD) (s : Int) (w : Nat) : CpD := { c with st := s, ho := if s = 9 then (w : Int) else 0, nx := if s = 5 then w else 0 }
def chgT (t : TkD) (c d s : Int) (w : Nat) : TkD :=
  if chgE t c d s w = 0 then { t with cps := t.cps.modify (c - 1).toNat (fun x => chgCp x s w), his := t.his ++ [⟨d, c, (t.cps.map CpD.st).getD (c - 1).toNat 0, s⟩] } else noTk
/-- Has a ticket more than is gone through? -/
def muchT (t : TkD) : Bool := decide (20 < t.cps.length) || decide (20 < t.txs.length) || decide (100 < t.his.length) || decide (100 < t.loc.size)
end Go.Proofs.Ytmopkfjnjbimnaa
