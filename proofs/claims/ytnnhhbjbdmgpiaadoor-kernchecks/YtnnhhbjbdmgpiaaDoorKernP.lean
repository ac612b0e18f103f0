/- Plain mathematics of chapter 5: a kernel, what is valid, and what actions do. No Go in it. -/
import Derived.Test.YtnnhhbjbdmgpiaaDoorModP
namespace Go.Proofs.YtnnhhbjbdmgpiaaDoor.Cf
set_option maxRecDepth 100000

structure Node where
  name : List UInt8
  kind : Int
  data : List UInt8
  unit : Int
deriving DecidableEq
structure End where
  kind : Int
  node : Int
  pos : Int
deriving DecidableEq
structure Proc where
  live : Bool
  ends : List End
deriving DecidableEq
structure Kern where
  mods : List Mod
  mem : List Int
  nodes : List Node
  pipes : List (List UInt8)
  procs : List Proc
structure Actn where
  kind : Int
  p : Int
  n : Int
  m : Int
  name : List UInt8
  data : List UInt8
structure Ans where
  code : Int
  n : Int
  data : List UInt8
deriving DecidableEq
def noNode : Node := ⟨[], 0, [], 0⟩
def noEnd : End := ⟨0, 0, 0⟩
def noProc : Proc := ⟨false, List.replicate 6 noEnd⟩
def noKern : Kern := ⟨[], [], [], [], []⟩
def noAns : Ans := ⟨0, 0, []⟩
/-- P5.1. -/
def newKern : Kern := ⟨[], List.replicate 1024 0, List.replicate 8 noNode, List.replicate 6 [], ⟨true, List.replicate 6 noEnd⟩ :: List.replicate 3 noProc⟩
/-- The place of the first one; -1: there is none. -/
def idxT {α : Type} (p : α → Bool) (l : List α) : Int := if l.any p then (l.findIdx p : Int) else -1
def endOf (kind node : Int) (e : End) : Bool := decide (e.kind = kind) && decide (e.node = node)
def holdsB (kind node : Int) (p : Proc) : Bool := p.ends.any (endOf kind node)
def hasB (ps : List Proc) (kind node : Int) : Bool := ps.any (holdsB kind node)
def withinB (v : Int) (size : Nat) : Bool := decide (0 ≤ v) && decide (v < size)
def namedB (name : List UInt8) (n : Node) : Bool := decide (n.name = name) && decide (name ≠ [])
def modIs (name : List UInt8) (m : Mod) : Bool := decide (m.name = name)
def emptyB (n : Node) : Bool := decide (n.kind = 0)
def freeB (e : End) : Bool := decide (e.kind = 0)
def deadB (p : Proc) : Bool := !p.live
/-- P5.2. -/
def sizedB (k : Kern) : Bool := decide (k.mods.length ≤ 8) && (decide (k.mem.length = 1024) && (decide (k.nodes.length = 8) && (decide (k.pipes.length = 6) && decide (k.procs.length = 4))))
def modE (l : List Mod) (i : Nat) : Int :=
  match l[i]? with
  | some m => if modT m = 0 then (if (l.take i).any (modIs m.name) then 7 else 0) else modT m
  | none => 0
/-- The first number that is not 0. -/
def firstE (f : Nat → Int) : Nat → Int
  | 0 => 0
  | n + 1 => if firstE f n = 0 then f n else firstE f n
def modsE (l : List Mod) : Int := firstE (modE l) l.length
def contentB (mods : Nat) (n : Node) : Bool :=
  if n.kind = 1 then decide (n.unit = 0) && decide (n.data.length ≤ 100) else if n.kind = 2 then decide (n.data = []) && withinB n.unit mods else decide (n = noNode)
def nameOk (k : Kern) (name : List UInt8) (i : Nat) : Bool := if name = [] then hasB k.procs 1 i else nameB name && decide (idxT (namedB name) k.nodes = i)
def fileB (k : Kern) (i : Nat) : Bool :=
  match k.nodes[i]? with
  | some n => contentB k.mods.length n && (emptyB n || nameOk k n.name i)
  | none => true
def filesB (k : Kern) : Bool := (List.range k.nodes.length).all (fileB k)
def fullAt (ns : List Node) (i : Int) : Bool :=
  match ns[i.toNat]? with
  | some n => !emptyB n
  | none => false
def endB (k : Kern) (e : End) : Bool :=
  if e.kind = 1 then withinB e.node k.nodes.length && (fullAt k.nodes e.node && withinB e.pos 101) else if e.kind = 2 ∨ e.kind = 3 then withinB e.node k.pipes.length && decide (e.pos = 0) else decide (e = noEnd)
def procB (k : Kern) (p : Proc) : Bool := decide (p.ends.length = 6) && p.ends.all (fun e => endB k e && (p.live || freeB e))
def procsB (k : Kern) : Bool := k.procs.all (procB k)
def pipeB (k : Kern) (i : Nat) : Bool :=
  match k.pipes[i]? with
  | some s => decide (s.length ≤ 20) && (decide (s = []) || hasB k.procs 2 i)
  | none => true
def pipesB (k : Kern) : Bool := (List.range k.pipes.length).all (pipeB k)
def kernT (k : Kern) : Int :=
  if sizedB k then (if modsE k.mods = 0 then (if k.mem.all wordB then (if filesB k && (procsB k && pipesB k) then 0 else 9) else 2) else modsE k.mods) else 1
/-- P5.3 and on: a kernel and an answer. -/
structure Did where
  kern : Kern
  ans : Ans
def refuseT (k : Kern) (e : Int) : Did := ⟨k, ⟨e, 0, []⟩⟩
/-- What nobody can reach any more. -/
def tidyN (ps : List Proc) (i : Nat) (n : Node) : Node := if n.name = [] ∧ hasB ps 1 i = false then noNode else n
def tidyP (ps : List Proc) (i : Nat) (s : List UInt8) : List UInt8 := if hasB ps 2 i = false then [] else s
def tidyT (k : Kern) : Kern := ⟨k.mods, k.mem, k.nodes.mapIdx (tidyN k.procs), k.pipes.mapIdx (tidyP k.procs), k.procs⟩
def setNode (k : Kern) (i : Nat) (n : Node) : Kern := ⟨k.mods, k.mem, k.nodes.set i n, k.pipes, k.procs⟩
def setPipe (k : Kern) (i : Nat) (s : List UInt8) : Kern := ⟨k.mods, k.mem, k.nodes, k.pipes.set i s, k.procs⟩
def setProc (k : Kern) (i : Nat) (p : Proc) : Kern := ⟨k.mods, k.mem, k.nodes, k.pipes, k.procs.set i p⟩
def setMem (k : Kern) (m : List Int) : Kern := ⟨k.mods, m, k.nodes, k.pipes, k.procs⟩
def nodeAt (k : Kern) (i : Nat) : Node := k.nodes.getD i noNode
def pipeAt (k : Kern) (i : Nat) : List UInt8 := k.pipes.getD i []
def procAt (k : Kern) (i : Nat) : Proc := k.procs.getD i noProc
def endAt (k : Kern) (p i : Nat) : End := (procAt k p).ends.getD i noEnd
def setEnd (k : Kern) (p i : Nat) (e : End) : Kern := setProc k p ⟨(procAt k p).live, (procAt k p).ends.set i e⟩
/-- The words of a region, and those around it. -/
def layT (mem data : List Int) (at_ : Nat) : List Int := mem.take at_ ++ (data ++ List.replicate (64 - data.length) 0) ++ mem.drop (at_ + 64)
def installT (k : Kern) (s : List UInt8) : Did :=
  if (decT s).err ≠ 0 then refuseT k (decT s).err else if k.mods.any (modIs (decT s).mod.name) then refuseT k 7 else if k.mods.length = 8 then refuseT k 8
  else ⟨⟨k.mods ++ [(decT s).mod], layT k.mem (decT s).mod.data (64 * k.mods.length), k.nodes, k.pipes, k.procs⟩, ⟨0, k.mods.length, []⟩⟩
def addT (k : Kern) (f : Node) : Did :=
  if nameB f.name = false then refuseT k 4 else if 0 ≤ idxT (namedB f.name) k.nodes then refuseT k 7 else if f.kind = 2 ∧ withinB f.unit k.mods.length = false then refuseT k 6
  else if idxT emptyB k.nodes < 0 then refuseT k 8 else ⟨setNode k (idxT emptyB k.nodes).toNat f, ⟨0, idxT emptyB k.nodes, []⟩⟩
def unlinkT (k : Kern) (name : List UInt8) : Did :=
  if idxT (namedB name) k.nodes < 0 then refuseT k 6
  else ⟨tidyT (setNode k (idxT (namedB name) k.nodes).toNat ⟨[], (nodeAt k (idxT (namedB name) k.nodes).toNat).kind, (nodeAt k (idxT (namedB name) k.nodes).toNat).data, (nodeAt k (idxT (namedB name) k.nodes).toNat).unit⟩), noAns⟩
def openT (k : Kern) (p : Nat) (name : List UInt8) : Did :=
  if nameB name = false then refuseT k 4 else if idxT (namedB name) k.nodes < 0 then refuseT k 6 else if idxT freeB (procAt k p).ends < 0 then refuseT k 8
  else ⟨setEnd k p (idxT freeB (procAt k p).ends).toNat ⟨1, idxT (namedB name) k.nodes, 0⟩, ⟨0, idxT freeB (procAt k p).ends, []⟩⟩
def noEnds (ps : List Proc) (i : Nat) : Bool := !hasB ps 2 i && !hasB ps 3 i
def pipeT' (k : Kern) : Int := idxT (noEnds k.procs) (List.range k.pipes.length)
def pipeT (k : Kern) (p : Nat) : Did :=
  if pipeT' k < 0 ∨ idxT freeB (procAt k p).ends < 0 then refuseT k 8
  else if idxT freeB ((procAt k p).ends.drop ((idxT freeB (procAt k p).ends).toNat + 1)) < 0 then refuseT k 8
  else ⟨setEnd (setEnd k p (idxT freeB (procAt k p).ends).toNat ⟨2, pipeT' k, 0⟩) p ((idxT freeB (procAt k p).ends).toNat + 1 + (idxT freeB ((procAt k p).ends.drop ((idxT freeB (procAt k p).ends).toNat + 1))).toNat) ⟨3, pipeT' k, 0⟩, ⟨0, idxT freeB (procAt k p).ends, []⟩⟩
def forkT (k : Kern) (p : Nat) : Did :=
  if idxT deadB k.procs < 0 then refuseT k 8 else ⟨setProc k (idxT deadB k.procs).toNat ⟨true, (procAt k p).ends⟩, ⟨0, idxT deadB k.procs, []⟩⟩
def exitT (k : Kern) (p : Nat) : Did := ⟨tidyT (setProc k p ⟨false, (procAt k p).ends.map (fun _ => noEnd)⟩), noAns⟩
def closeT (k : Kern) (p i : Nat) : Did := ⟨tidyT (setEnd k p i noEnd), noAns⟩
/-- P5.9: what a module answers to a word. -/
structure Asked where
  mem : List Int
  word : Int
  ok : Bool
def askR (unit : Nat) (word : Int) : List Int := [word, 0, 0, 0, 64 * (unit : Int), 64 * (unit : Int), 63, 0]
def askO (k : Kern) (unit : Nat) (word : Int) : Out := runT (k.mods.getD unit noMod).code (askR unit word) k.mem 2000
def askT (k : Kern) (unit : Nat) (word : Int) : Asked :=
  if (askO k unit word).err = 0 ∧ (askO k unit word).fin = 1 then ⟨(askO k unit word).mem, (askO k unit word).regs.getD 0 0, true⟩ else ⟨k.mem, 0, false⟩
def gaveT (k : Kern) (s : List UInt8) : Did := ⟨k, ⟨0, s.length, s⟩⟩
def readPipeT (k : Kern) (i size : Nat) : Did :=
  if pipeAt k i = [] then refuseT k (if hasB k.procs 3 i then 13 else 12) else gaveT (setPipe k i ((pipeAt k i).drop size)) ((pipeAt k i).take size)
def readFileT (k : Kern) (p n size : Nat) (data : List UInt8) (e : End) : Did :=
  if data.drop e.pos.toNat = [] then refuseT k 12
  else gaveT (setEnd k p n ⟨e.kind, e.node, e.pos + ((data.drop e.pos.toNat).take size).length⟩) ((data.drop e.pos.toNat).take size)
def readDevT (k : Kern) (unit : Nat) : Did :=
  if (askT k unit 256).ok then gaveT (setMem k (askT k unit 256).mem) [UInt8.ofNat (askT k unit 256).word.toNat] else refuseT k 14
def readT (k : Kern) (p n : Nat) (size : Int) : Did :=
  if (endAt k p n).kind = 3 then refuseT k 3 else if inB size 1 100 = false then refuseT k 2 else if (endAt k p n).kind = 2 then readPipeT k (endAt k p n).node.toNat size.toNat
  else if (nodeAt k (endAt k p n).node.toNat).kind = 2 then readDevT k (nodeAt k (endAt k p n).node.toNat).unit.toNat
  else readFileT k p n size.toNat (nodeAt k (endAt k p n).node.toNat).data (endAt k p n)
def writePipeT (k : Kern) (i : Nat) (s : List UInt8) : Did :=
  if hasB k.procs 2 i = false then refuseT k 12 else if s.take (20 - (pipeAt k i).length) = [] then refuseT k 13
  else ⟨setPipe k i (pipeAt k i ++ s.take (20 - (pipeAt k i).length)), ⟨0, (s.take (20 - (pipeAt k i).length)).length, []⟩⟩
/-- Bytes laid over others. -/
def overT (d s : List UInt8) (pos : Nat) : List UInt8 := (d ++ List.replicate (pos - d.length) 0).take pos ++ s ++ d.drop (pos + s.length)
def writeFileT (k : Kern) (p n : Nat) (s : List UInt8) (e : End) (f : Node) : Did :=
  if s.take (100 - e.pos.toNat) = [] then refuseT k 8
  else ⟨setEnd (setNode k e.node.toNat ⟨f.name, f.kind, overT f.data (s.take (100 - e.pos.toNat)) e.pos.toNat, f.unit⟩) p n ⟨e.kind, e.node, e.pos + (s.take (100 - e.pos.toNat)).length⟩, ⟨0, (s.take (100 - e.pos.toNat)).length, []⟩⟩
structure Fed where
  mem : List Int
  many : Nat
def feedT (k : Kern) (unit : Nat) : List UInt8 → Fed
  | [] => ⟨k.mem, 0⟩
  | b :: r => if (askT k unit b.toNat).ok then ⟨(feedT (setMem k (askT k unit b.toNat).mem) unit r).mem, (feedT (setMem k (askT k unit b.toNat).mem) unit r).many + 1⟩ else ⟨k.mem, 0⟩
def writeDevT (k : Kern) (unit : Nat) (s : List UInt8) : Did :=
  if (feedT k unit s).many = 0 then refuseT k 14 else ⟨setMem k (feedT k unit s).mem, ⟨0, (feedT k unit s).many, []⟩⟩
def writeT (k : Kern) (p n : Nat) (s : List UInt8) : Did :=
  if (endAt k p n).kind = 2 then refuseT k 3 else if inB s.length 1 100 = false then refuseT k 2 else if (endAt k p n).kind = 3 then writePipeT k (endAt k p n).node.toNat s
  else if (nodeAt k (endAt k p n).node.toNat).kind = 2 then writeDevT k (nodeAt k (endAt k p n).node.toNat).unit.toNat s
  else writeFileT k p n s (endAt k p n) (nodeAt k (endAt k p n).node.toNat)
def byEndT (k : Kern) (p n : Nat) (a : Actn) : Did := if a.kind = 7 then readT k p n a.m else if a.kind = 8 then writeT k p n a.data else closeT k p n
def byProcT (k : Kern) (p : Nat) (a : Actn) : Did :=
  if a.kind = 5 then openT k p a.name else if a.kind = 9 then pipeT k p else if a.kind = 10 then forkT k p else if a.kind = 11 then exitT k p
  else if withinB a.n (procAt k p).ends.length = true ∧ (endAt k p a.n.toNat).kind ≠ 0 then byEndT k p a.n.toNat a else refuseT k 6
def actT (k : Kern) (a : Actn) : Did :=
  if a.kind = 1 then installT k a.data else if a.kind = 2 then addT k ⟨a.name, 1, [], 0⟩ else if a.kind = 3 then addT k ⟨a.name, 2, [], a.n⟩ else if a.kind = 4 then unlinkT k a.name
  else if withinB a.p k.procs.length = true ∧ (procAt k a.p.toNat).live = true then byProcT k a.p.toNat a else refuseT k 6
structure DidE where
  kern : Kern
  ans : Ans
  err : Int
def doT (k : Kern) (a : Actn) : DidE :=
  if kernT k ≠ 0 then ⟨noKern, noAns, kernT k⟩ else if inB a.kind 1 11 = false then ⟨noKern, noAns, 3⟩ else ⟨(actT k a).kern, (actT k a).ans, 0⟩
/-- One action of a script: an error is its answer's code. -/
def nextT (k : Kern) (a : Actn) : Did := if (doT k a).err = 0 then ⟨(doT k a).kern, (doT k a).ans⟩ else ⟨k, ⟨(doT k a).err, 0, []⟩⟩
structure Ran where
  answers : List Ans
  kern : Kern
def ranT : Kern → List Actn → Ran
  | k, [] => ⟨[], k⟩
  | k, a :: r => ⟨(nextT k a).ans :: (ranT (nextT k a).kern r).answers, (ranT (nextT k a).kern r).kern⟩
structure RanE where
  answers : List Ans
  kern : Kern
  err : Int
def scriptT (l : List Actn) : RanE := if 200 < l.length then ⟨[], noKern, 1⟩ else ⟨(ranT newKern l).answers, (ranT newKern l).kern, 0⟩
end Go.Proofs.YtnnhhbjbdmgpiaaDoor.Cf
