/-
  Contracts and plain facts of the layers below; conditions as each theorem states them.
-/
import Derived.Test.YtgmidodmmlmmeaaGreatDoorGraPlain
import Derived.Test.YtgmidodmmlmmeaaGreatDoorMcd
set_option maxHeartbeats 1000000
set_option maxRecDepth 100000
namespace Go.Proofs.YtgmidodmmlmmeaaGreatDoor.nor
open lex tre att
abbrev Nm:=List UInt8
abbrev Cl:=Nm × Int
structure En where
 fr:Int
 «to»:Int
 fp:Nm
 tp:Nm
 ats:List Pr
deriving DecidableEq
structure Sta where
 ns:List Cl
 ats:List (List Pr)
 cs:List Cl
 en:List En
 e:Int
structure Pl where
 cl:Int
 dn:List Pr
 de:List Pr
def yG:List Cl->Nm->Nat->Int
 | [],_,_=>-1
 | x::t,n,i=>if x.1=n then (i:Int) else yG t n (i+1)
def yaw (l:List Cl)(n:Nm):Bool:=l.any fun x=>x.1==n
def yN (s:Sta)(n:Nm)(p:Pl):Sta :=
 if yG s.ns n 0<0 then ⟨s.ns++[(n,p.cl)],s.ats++[p.dn],s.cs,s.en,if s.e=0/\yaw s.cs n=true then 6 else s.e⟩
 else ⟨s.ns,s.ats,s.cs,s.en,if s.e=0/\yaw s.cs n=true then 6 else s.e⟩
def ybS (s:Sta)(n:Nm):Int:=if yG s.ns n 0<0 then (s.ns.length:Int) else yG s.ns n 0
def ycB:List (List Pr)->Int->List Pr->List (List Pr)
 | [],_,_=>[]
 | a::t,i,l=>(if i=0 then yB a l else a)::ycB t (i-1) l
def y7:List Pr->Sta->Pl->Sta
 | [],s,_=>s
 | r::t,s,p=>if s.e≠0 then s else y7 t (yN s r.1 p) p
def ybb:List Pr->Sta->Pl->List Int
 | [],_,_=>[]
 | r::t,s,p=>if s.e≠0 then [] else ybS s r.1::ybb t (yN s r.1 p) p
def yaz:List Int->List Pr->List Pr->List En
 | a::b::t,r::q::u,m=>⟨a,b,r.2,q.2,m⟩::yaz (b::t) (q::u) m
 | _,_,_=>[]
def yaL (s:Sta)(rs ats:List Pr)(p:Pl):Sta :=
 if (y7 rs s p).e≠0 then y7 rs s p
 else ⟨(y7 rs s p).ns,(y7 rs s p).ats,(y7 rs s p).cs,(y7 rs s p).en++yaz (ybb rs s p) rs (yB p.de ats),(y7 rs s p).e⟩
def yb1 (k:Int):List Pr->Int
 | []=>0
 | a::t=>if yaa k a≠0 then yaa k a else yb1 k t
def keyL (n:Nm)(ats:List Pr):Pr:=(n,(ats.headD ([],[])).2)
def stE (k:Int)(n:Nm)(ats:List Pr):Int:=if k=4 then yb1 4 [keyL n ats] else if k=2\/(k=3/\n=ybR) then yb1 2 ats else yb1 1 ats
def dflt (k:Int)(n:Nm)(ats:List Pr)(p:Pl):Pl:=if k=3 then (if n=yc0 then ⟨p.cl,yB p.dn ats,p.de⟩ else ⟨p.cl,p.dn,yB p.de ats⟩) else p
mutual
def ya9:St->Pl->Sta->Sta
 | .mk k n r a b,p,s =>
  if k=1 then ⟨(yN s n p).ns,ycB (yN s n p).ats (ybS s n) a,(yN s n p).cs,(yN s n p).en,(yN s n p).e⟩
  else if k=2 then yaL s r a p
  else if k=5 then (if yaw s.cs n=true\/0<=yG s.ns n 0 then ⟨s.ns,s.ats,s.cs,s.en,6⟩ else yX b ⟨s.cs.length,p.dn,p.de⟩ ⟨s.ns,s.ats,s.cs++[(n,p.cl)],s.en,s.e⟩)
  else s
def yX:List St->Pl->Sta->Sta
 | [],_,s=>s
 | .mk k n r a b::t,p,s=>if s.e≠0 then s else if stE k n a≠0 then ⟨s.ns,s.ats,s.cs,s.en,stE k n a⟩ else yX t (dflt k n a p) (ya9 (.mk k n r a b) p s)
end
theorem ybc (p:Pl)(s:Sta):yX [] p s=s:=by rw[yX]
theorem yaR (x:St)(t:List St)(p:Pl)(s:Sta):yX (x::t) p s=if s.e≠0 then s else if stE x.kind x.name x.attrs≠0 then ⟨s.ns,s.ats,s.cs,s.en,stE x.kind x.name x.attrs⟩ else yX t (dflt x.kind x.name x.attrs p) (ya9 x p s):=by
 cases x;rw[yX];rfl
theorem yhH (n:Nm)(r a:List Pr)(b:List St)(p:Pl)(s:Sta):ya9 (.mk 1 n r a b) p s=⟨(yN s n p).ns,ycB (yN s n p).ats (ybS s n) a,(yN s n p).cs,(yN s n p).en,(yN s n p).e⟩:=by rw[ya9];rfl
theorem yhI (n:Nm)(r a:List Pr)(b:List St)(p:Pl)(s:Sta):ya9 (.mk 2 n r a b) p s=yaL s r a p:=by rw[ya9];rfl
theorem ylr (n:Nm)(r a:List Pr)(b:List St)(p:Pl)(s:Sta):ya9 (.mk 3 n r a b) p s=s:=by rw[ya9];rfl
theorem yjs (n:Nm)(r a:List Pr)(b:List St)(p:Pl)(s:Sta):ya9 (.mk 4 n r a b) p s=s:=by rw[ya9];rfl
theorem yjt (n:Nm)(r a:List Pr)(b:List St)(p:Pl)(s:Sta):ya9 (.mk 5 n r a b) p s=if yaw s.cs n=true\/0<=yG s.ns n 0 then ⟨s.ns,s.ats,s.cs,s.en,6⟩ else yX b ⟨s.cs.length,p.dn,p.de⟩ ⟨s.ns,s.ats,s.cs++[(n,p.cl)],s.en,s.e⟩:=by rw[ya9];rfl
def yda:List (Nm × Int)->Nm->Nat->Int
 | [],_,_=>-2
 | x::t,n,i=>if x.1=n then (i:Int) else yda t n (i+1)
def ycC (l:List (Nm × Int))(n:Nm):Int:=if n=[] then -1 else yda l n 0
def ygJ (x:Cl)(l:List Pr):gra.Nd :=
 ⟨x.1,if (yai l yE).2 then (yai l yE).1 else x.1,ycA 1 l yao,ycA 1 l yQ,x.2,if (yai l yY).2 then (yaQ (yai l yY).1).1 else []⟩
def ybT (ns:List gra.Nd)(i:Int):List (Nm × Int):=match ns[i.toNat]? with | some x=>x.ps | none=>[]
def yeR (ns:List gra.Nd)(x:En):gra.Ed :=
 ⟨x.fr,x.to,ycC (ybT ns x.fr) x.fp,ycC (ybT ns x.to) x.tp,(yai x.ats yE).1,ycA 2 x.ats yV,ycA 2 x.ats yej⟩
def yeS (n:Nm)(d:Bool)(s:Sta):gra.Gr:=⟨n,d,List.zipWith ygJ s.ns s.ats,s.en.map (yeR (List.zipWith ygJ s.ns s.ats)),s.cs⟩
def emG:gra.Gr:=⟨[],false,[],[],[]⟩
def st0:Sta:=⟨[],[],[],[],0⟩
def pl0:Pl:=⟨-1,[],[]⟩
def yeT (g:gra.Gr):Bool:=g.es.any fun x=>decide (x.fp=-2)||decide (x.tp=-2)
def yb2 (T:Tr):gra.Gr × Int :=
 if yab T≠0 then (emG,yab T)
 else if (yX T.body pl0 st0).e≠0 then (emG,(yX T.body pl0 st0).e)
 else if yeT (yeS T.name T.dir (yX T.body pl0 st0))=true then (emG,5)
 else if gra.validE (yeS T.name T.dir (yX T.body pl0 st0))≠0 then (emG,gra.validE (yeS T.name T.dir (yX T.body pl0 st0)))
 else (yeS T.name T.dir (yX T.body pl0 st0),0)
structure Op' where
 mode:Int
 ns:Int
 rs:Int
 mg:Int
 rd:Int
deriving DecidableEq
def rng (n lo hi:Int):Bool:=decide (lo<=n)&&decide (n<=hi)
def okO (o:Op'):Bool:=rng o.mode 0 4&&rng o.ns 0 1048576&&rng o.rs 0 1048576&&rng o.mg 0 1048576&&rng o.rd 0 100
theorem yqV (s:Sta)(n:Nm)(p:Pl):(yN s n p).cs=s.cs:=by unfold yN;split <;> rfl
theorem yqW (s:Sta)(n:Nm)(p:Pl):(yN s n p).en=s.en:=by unfold yN;split <;> rfl
theorem yhJ {s:St}{lv:Int}(h:ybs s lv=0):(s.kind=1\/s.kind=2\/s.kind=3\/s.kind=4\/s.kind=5)/\(s.kind≠2->s.refs=[])/\(s.kind≠5->s.body=[]):=by
 unfold ybs at h
 split at h
 ·rename_i hne;exact absurd h hne
 ·rename_i hne
  have hf:ydL s=0:=by simpa using hne
  unfold ydL at hf
  split at hf
  ·exact absurd hf (by decide)
  split at hf
  ·exact absurd hf (by decide)
  rename_i h1 h2
  refine⟨by omega,fun hk=>?_,fun hk=>?_⟩
  ·exact List.length_eq_zero_iff.1 (Nat.le_zero.1 (Nat.not_lt.1 fun q=>h2 (Or.inr (Or.inl ⟨hk,q⟩))))
  ·exact List.length_eq_zero_iff.1 (Nat.le_zero.1 (Nat.not_lt.1 fun q=>h2 (Or.inr (Or.inr (Or.inr ⟨hk,q⟩)))))
theorem ysM (l:List St)(p:Pl)(s:Sta)(h:(yX l p s).e=0):s.e=0:=by
 cases l with
 | nil=>rw[ybc] at h;exact h
 | cons x t =>
  rw[yaR] at h
  by_cases h0:s.e=0
  ·exact h0
  ·rw[if_pos h0] at h;exact absurd h h0
end Go.Proofs.YtgmidodmmlmmeaaGreatDoor.nor
namespace Go.Proofs.YtgmidodmmlmmeaaGreatDoor.nor
open Go.RowKit lex tre att
def hot (t:TypeId):Bool:=t==59||t==63||t==65||t==189||t==101
def cold:Obj->Prop
 | .cells _ t _=>hot t=false
 | _=>True
structure TFr (w w':World):Prop where
 os:w'.os=w.os
 tape:w'.tape=w.tape
 output:w'.output=w.output
 size:w.heap.size<=w'.heap.size
 block:∀ (k:Nat) (o:Obj),w.heap[k]?=some o->cold o->w'.heap[k]?=some o
theorem TFr.refl (w:World):TFr w w:=⟨rfl,rfl,rfl,Nat.le_refl _,fun _ _ h _=>h⟩
theorem TFr.trans {a b c:World}(h:TFr a b)(k:TFr b c):TFr a c :=
 ⟨k.os.trans h.os,k.tape.trans h.tape,k.output.trans h.output,Nat.le_trans h.size k.size,fun i o hi ho=>k.block i o (h.block i o hi ho) ho⟩
theorem yax {w:World}{k:Nat}{o:Obj}(h:w.heap[k]?=some o):k<w.heap.size:=by
 rcases Nat.lt_or_ge k w.heap.size with q | q
 ·exact q
 ·rw[Array.getElem?_eq_none (by omega)] at h;cases h
theorem TFr.below {w w':World}(h:Below w.heap.size w w'):TFr w w':=⟨h.os,h.tape,h.output,h.size,fun k o hk _=>by rw[h.block k (yax hk)];exact hk⟩
theorem TFr.grown {w w':World}{row:Option Nat}(h:w.grownBy w' row)(hr:∀ g,row=some g->∃ arr t fr,w.heap[g]?=some (.cells arr t fr)/\hot t=true):TFr w w':=by
 refine⟨h.os,h.tape,h.output,h.size,fun k o hk hc=>?_⟩
 by_cases e:some k=row
 ·obtain⟨arr,t,fr,h1,h2⟩:=hr k e.symm
  rw[hk] at h1;cases h1
  exact absurd h2 (by rw[show hot t=false from hc];decide)
 ·rw[h.block k (yax hk) e];exact hk
theorem TFr.set {w:World}{b o:Nat}{t:TypeId}{arr:Array Value}(hb:blk w b t arr)(ht:hot t=true)(u:Value):TFr w (w.setCell ⟨b,o,none⟩ u):=by
 refine⟨rfl,rfl,rfl,by simp[World.setCell],fun k x hk hc=>?_⟩
 by_cases e:k=b
 ·subst e
  rw[hb] at hk;cases hk
  exact absurd ht (by rw[show hot t=false from hc];decide)
 ·rw[Below.heap_setCell _ _ _ _ e];exact hk
theorem TFr.alloc (w:World)(o:Obj):TFr w (w.alloc o):=TFr.below ⟨rfl,rfl,rfl,by simp,fun k hk=>Below.heap_alloc _ _ _ hk⟩
theorem TFr.blk {w w':World}(h:TFr w w'){g:Nat}{t:TypeId}{arr:Array Value}(hb:blk w g t arr)(ht:hot t=false):blk w' g t arr:=h.block g _ hb ht
theorem TFr.prs {w w':World}(h:TFr w w'){v:Value}{l:List Pr}(hp:PrsT w v l):PrsT w' v l:=by
 obtain⟨⟨ao,cap,rfl,hc,hm,hA⟩,hT⟩:=hp;refine⟨⟨ao,cap,rfl,hc,hm,fun hn=>?_⟩,fun g hg=>?_⟩
 ·obtain⟨A,rfl,h2⟩:=hA hn
  obtain⟨arr,fr,hk⟩:=hT A.block rfl;have e:w'.heap[A.block]?=w.heap[A.block]?:=by rw[h.block _ _ hk (by rfl),hk]
  refine⟨A,rfl,fun i hi=>?_⟩;obtain⟨a1,a2,a3⟩:=h2 i hi;have eb:(A.add (i*2)).block=A.block:=by unfold Addr.add;split <;> rfl
  have e1:w'.heap[(A.add (i*2)).block]?=w.heap[(A.add (i*2)).block]?:=by rw[eb];exact e
  exact⟨(World.cell?_of_block (a:=A.add (i*2)) e1).trans a1,(World.cell?_of_block (a:=⟨(A.add (i*2)).block,(A.add (i*2)).off+1,none⟩) e1).trans a2,a3⟩
 ·obtain⟨arr,fr,hk⟩:=hT g hg
  exact⟨arr,fr,h.block _ _ hk (by rfl)⟩
def stb (W:World)(b:Nat)(nm:Nm)(d:Bool)(nv cv av ev:Value)(e:Int):Prop :=
 blk W b 101 #[.string (bb nm),.bool d,nv,.slice none 0 0,cv,av,ev,.int .i64 e]
def stc (W:World)(b:Nat)(nv cv av ev:Value)(e:Int):Prop :=
 W.cell? ⟨b,2,none⟩=some nv/\W.cell? ⟨b,4,none⟩=some cv/\W.cell? ⟨b,5,none⟩=some av/\W.cell? ⟨b,6,none⟩=some ev/\W.cell? ⟨b,7,none⟩=some (.int .i64 e)
theorem stb.read {W:World}{b:Nat}{nm:Nm}{d:Bool}{nv cv av ev:Value}{e:Int}(h:stb W b nm d nv cv av ev e):stc W b nv cv av ev e :=
 ⟨by rw[yd h];rfl,by rw[yd h];rfl,by rw[yd h];rfl,by rw[yd h];rfl,by rw[yd h];rfl⟩
theorem stb.open {W:World}{b:Nat}{nm:Nm}{d:Bool}{nv cv av ev:Value}{e:Int}(h:stb W b nm d nv cv av ev e)(o:Nat):W.frozen? ⟨b,o,none⟩=false:=by
 unfold stb blk at h;simp[World.frozen?,h]
theorem yg {W:World}{b o:Nat}{t:TypeId}{arr:Array Value}(h:blk W b t arr)(u:Value):blk (W.setCell ⟨b,o,none⟩ u) b t (arr.setIfInBounds o u):=by
 unfold blk at *;simp only[World.setCell,Array.getElem?_modify,h];simp
theorem stb.set2 {W:World}{b:Nat}{nm:Nm}{d:Bool}{nv cv av ev:Value}{e:Int}(h:stb W b nm d nv cv av ev e)(u:Value):stb (W.setCell ⟨b,2,none⟩ u) b nm d u cv av ev e:=yg h u
theorem stb.set4 {W:World}{b:Nat}{nm:Nm}{d:Bool}{nv cv av ev:Value}{e:Int}(h:stb W b nm d nv cv av ev e)(u:Value):stb (W.setCell ⟨b,4,none⟩ u) b nm d nv u av ev e:=yg h u
theorem stb.set5 {W:World}{b:Nat}{nm:Nm}{d:Bool}{nv cv av ev:Value}{e:Int}(h:stb W b nm d nv cv av ev e)(u:Value):stb (W.setCell ⟨b,5,none⟩ u) b nm d nv cv u ev e:=yg h u
theorem stb.set6 {W:World}{b:Nat}{nm:Nm}{d:Bool}{nv cv av ev:Value}{e:Int}(h:stb W b nm d nv cv av ev e)(u:Value):stb (W.setCell ⟨b,6,none⟩ u) b nm d nv cv av u e:=yg h u
theorem stb.set7 {W:World}{b:Nat}{nm:Nm}{d:Bool}{nv cv av ev:Value}{e:Int}(h:stb W b nm d nv cv av ev e)(x:Int):stb (W.setCell ⟨b,7,none⟩ (.int .i64 x)) b nm d nv cv av ev x:=yg h _
def ndC (x:Cl):List Value:=[.string (bb x.1),.string ⟨#[]⟩,.int .i64 0,.int .i64 0,.int .i64 x.2,.slice none 0 0]
def clC (x:Cl):List Value:=[.string (bb x.1),.int .i64 x.2]
def vC (v:Value):List Value:=[v]
def enC (x:En × Value):List Value:=[.int .i64 x.1.fr,.int .i64 x.1.to,.string (bb x.1.fp),.string (bb x.1.tp),x.2]
abbrev Nrow (W:World)(B:Nat)(v:Value)(l:List Cl):Prop:=W.ownsRow B 59 6 v l.length (l.flatMap ndC)
abbrev Crow (W:World)(B:Nat)(v:Value)(l:List Cl):Prop:=W.ownsRow B 63 2 v l.length (l.flatMap clC)
abbrev ynF (W:World)(B:Nat)(v:Value)(l:List Value):Prop:=W.ownsRow B 65 1 v l.length (l.flatMap vC)
abbrev Erow (W:World)(B:Nat)(v:Value)(l:List (En × Value)):Prop:=W.ownsRow B 189 5 v l.length (l.flatMap enC)
structure StV where
 nv:Value
 cv:Value
 av:Value
 ev:Value
 avs:List Value
 evs:List (En × Value)
structure StB (W:World)(B b:Nat)(nm:Nm)(d:Bool)(s:Sta)(x:StV):Prop where
 low:B<=b
 box:stb W b nm d x.nv x.cv x.av x.ev s.e
 nr:Nrow W B x.nv s.ns
 cr:Crow W B x.cv s.cs
 ar:ynF W B x.av x.avs
 er:Erow W B x.ev x.evs
 al:x.avs.length=s.ats.length
 ap:∀ i (h:i<x.avs.length) (h':i<s.ats.length),PrsT W x.avs[i] s.ats[i]
 el:x.evs.map (·.1)=s.en
 ep:∀ y∈x.evs,PrsT W y.2 y.1.ats
theorem yq3 {W W':World}{B c n g:Nat}{t u:TypeId}{v:Value}{xs:List Value}{arr:Array Value}{fr:Nat × Nat}(h:W.ownsRow B t c v n xs)(hg:W.heap[g]?=some (.cells arr u fr))(hu:t≠u)(hf:∀ q,q<W.heap.size->q≠g->W'.heap[q]?=W.heap[q]?):W'.ownsRow B t c v n xs:=by
 refine⟨h.1,?_⟩
 rcases h.2 with ⟨a,b⟩ | ⟨k,cap,cur,rfl,h1,h2,h3⟩
 ·exact Or.inl ⟨a,b⟩
 ·have hne:k≠g:=by
    intro e;subst e;rw[h2] at hg;cases hg
    exact hu rfl
  exact Or.inr ⟨k,cap,cur,rfl,h1,by rw[hf k (yax h2) hne];exact h2,h3⟩
theorem yw {W:World}{B c n g o:Nat}{t u:TypeId}{v:Value}{xs:List Value}{arr:Array Value}(h:W.ownsRow B t c v n xs)(hg:blk W g u arr)(hu:t≠u)(y:Value):(W.setCell ⟨g,o,none⟩ y).ownsRow B t c v n xs :=
 yq3 h hg hu fun _ _ hne=>Below.heap_setCell _ _ _ _ hne
theorem yr {W W':World}{B c n:Nat}{t:TypeId}{v:Value}{xs:List Value}(h:W.ownsRow B t c v n xs)(hb:Below W.heap.size W W'):W'.ownsRow B t c v n xs:=by
 refine⟨h.1,?_⟩
 rcases h.2 with ⟨a,b⟩ | ⟨k,cap,cur,rfl,h1,h2,h3⟩
 ·exact Or.inl ⟨a,b⟩
 ·exact Or.inr ⟨k,cap,cur,rfl,h1,by rw[hb.block k (yax h2)];exact h2,h3⟩
theorem yI {W W':World}{B B' c c' n n':Nat}{t u:TypeId}{v v':Value}{xs ys:List Value}(h:W.ownsRow B t c v n xs)(hg:W.ownsRow B' u c' v' n' ys)(hw:W.grownBy W' v'.ownBlock)(hu:t≠u):W'.ownsRow B t c v n xs:=by
 refine⟨h.1,?_⟩
 rcases h.2 with ⟨a,b⟩ | ⟨k,cap,cur,rfl,h1,h2,h3⟩
 ·exact Or.inl ⟨a,b⟩
 ·refine Or.inr ⟨k,cap,cur,rfl,h1,?_,h3⟩
  rw[hw.block k (yax h2) ?_]
  ·exact h2
  ·intro e
   rcases hg.2 with ⟨rfl,_⟩ | ⟨k',cap',cur',rfl,_,h2',_⟩
   ·cases e
   ·obtain rfl:k=k':=Option.some.inj e
    rw[h2] at h2';cases h2'
    exact hu rfl
theorem yaF {W W':World}{B' c' n' g:Nat}{t u:TypeId}{v':Value}{ys:List Value}{arr:Array Value}(h:blk W g t arr)(hg:W.ownsRow B' u c' v' n' ys)(hw:W.grownBy W' v'.ownBlock)(hu:t≠u):blk W' g t arr:=by
 unfold blk;rw[hw.block g (yax h) ?_]
 ·exact h
 ·intro e
  rcases hg.2 with ⟨rfl,_⟩ | ⟨k',cap',cur',rfl,_,h2',_⟩
  ·cases e
  ·obtain rfl:g=k':=Option.some.inj e
   rw[h] at h2';cases h2'
   exact hu rfl
theorem ydP {W W':World}{B c n:Nat}{t:TypeId}{v:Value}{xs:List Value}(h:W.ownsRow B t c v n xs)(hw:W.grownBy W' v.ownBlock)(ht:hot t=true):TFr W W':=by
 refine TFr.grown hw fun g hg=>?_
 rcases h.2 with ⟨rfl,_⟩ | ⟨k,cap,cur,rfl,_,h2,_⟩
 ·cases hg
 ·obtain rfl:k=g:=Option.some.inj hg
  exact⟨_,_,_,h2,ht⟩
theorem ybe {W W':World}{B c n:Nat}{t:TypeId}{v:Value}{xs:List Value}(h:W.ownsRow B t c v n xs)(hw:W.grownBy W' v.ownBlock)(hB:B<=W.heap.size):Below B W W' :=
 (Below.refl B W).grown hw hB fun k hk=>(World.ownsRow.lt h k hk).1
theorem StB.below {W W':World}{B b:Nat}{nm:Nm}{d:Bool}{s:Sta}{x:StV}(h:StB W B b nm d s x)(hb:Below W.heap.size W W'):StB W' B b nm d s x :=
 ⟨h.low,(by unfold stb blk;rw[hb.block b (yax h.box)];exact h.box),yr h.nr hb,yr h.cr hb,yr h.ar hb,yr h.er hb,h.al,fun i h1 h2=>(h.ap i h1 h2).keep hb,h.el,fun y hy=>(h.ep y hy).keep hb⟩
theorem StB.lt {W:World}{B b:Nat}{nm:Nm}{d:Bool}{s:Sta}{x:StV}(h:StB W B b nm d s x):b<W.heap.size:=yax h.box
theorem StB.base {W:World}{B b:Nat}{nm:Nm}{d:Bool}{s:Sta}{x:StV}(h:StB W B b nm d s x):B<=W.heap.size:=Nat.le_of_lt (Nat.lt_of_le_of_lt h.low h.lt)
theorem StB.err {W:World}{B b:Nat}{nm:Nm}{d:Bool}{s:Sta}{x:StV}(h:StB W B b nm d s x)(n:Int):StB (W.setCell ⟨b,7,none⟩ (.int .i64 n)) B b nm d ⟨s.ns,s.ats,s.cs,s.en,n⟩ x/\TFr W (W.setCell ⟨b,7,none⟩ (.int .i64 n))/\Below B W (W.setCell ⟨b,7,none⟩ (.int .i64 n)):=by
 have ht:TFr W (W.setCell ⟨b,7,none⟩ (.int .i64 n)):=TFr.set h.box rfl _;exact⟨⟨h.low,h.box.set7 n,yw h.nr h.box (by decide) _,yw h.cr h.box (by decide) _,yw h.ar h.box (by decide) _,yw h.er h.box (by decide) _,h.al,fun i h1 h2=>ht.prs (h.ap i h1 h2),h.el,fun y hy=>ht.prs (h.ep y hy)⟩,ht,(Below.refl B W).setCell h.low _⟩
theorem StB.growN {W Wd w1:World}{B b:Nat}{nm:Nm}{d:Bool}{s:Sta}{x:StV}{nv':Value}{c:Cl}(h:StB W B b nm d s x)(hb:Below W.heap.size W Wd)(hg:Wd.grownBy w1 x.nv.ownBlock)(ho:Nrow w1 B nv' (s.ns++[c])) :
    (stb w1 b nm d x.nv x.cv x.av x.ev s.e/\TFr W w1/\Below B W w1)/\StB (w1.setCell ⟨b,2,none⟩ nv') B b nm d ⟨s.ns++[c],s.ats,s.cs,s.en,s.e⟩ ⟨nv',x.cv,x.av,x.ev,x.avs,x.evs⟩/\TFr W (w1.setCell ⟨b,2,none⟩ nv')/\Below B W (w1.setCell ⟨b,2,none⟩ nv'):=by
 have k:=h.below hb;have hbx:stb w1 b nm d x.nv x.cv x.av x.ev s.e:=yaF k.box k.nr hg (by decide);have t1:TFr W w1:=(TFr.below hb).trans (ydP k.nr hg rfl);have b1:Below B W w1:=(hb.mono h.base).trans (ybe k.nr hg k.base);have t2:TFr w1 (w1.setCell ⟨b,2,none⟩ nv'):=TFr.set hbx rfl _;exact⟨⟨hbx,t1,b1⟩,⟨h.low,hbx.set2 nv',yw ho hbx (by decide) _,yw (yI k.cr k.nr hg (by decide)) hbx (by decide) _,yw (yI k.ar k.nr hg (by decide)) hbx (by decide) _,yw (yI k.er k.nr hg (by decide)) hbx (by decide) _,h.al,fun i h1 h2=>(t1.trans t2).prs (h.ap i h1 h2),h.el,fun y hy=>(t1.trans t2).prs (h.ep y hy)⟩,t1.trans t2,b1.setCell h.low _⟩
theorem StB.growC {W Wd w1:World}{B b:Nat}{nm:Nm}{d:Bool}{s:Sta}{x:StV}{cv':Value}{c:Cl}(h:StB W B b nm d s x)(hb:Below W.heap.size W Wd)(hg:Wd.grownBy w1 x.cv.ownBlock)(ho:Crow w1 B cv' (s.cs++[c])) :
    (stb w1 b nm d x.nv x.cv x.av x.ev s.e/\TFr W w1/\Below B W w1)/\StB (w1.setCell ⟨b,4,none⟩ cv') B b nm d ⟨s.ns,s.ats,s.cs++[c],s.en,s.e⟩ ⟨x.nv,cv',x.av,x.ev,x.avs,x.evs⟩/\TFr W (w1.setCell ⟨b,4,none⟩ cv')/\Below B W (w1.setCell ⟨b,4,none⟩ cv'):=by
 have k:=h.below hb;have hbx:stb w1 b nm d x.nv x.cv x.av x.ev s.e:=yaF k.box k.cr hg (by decide);have t1:TFr W w1:=(TFr.below hb).trans (ydP k.cr hg rfl);have b1:Below B W w1:=(hb.mono h.base).trans (ybe k.cr hg k.base);have t2:TFr w1 (w1.setCell ⟨b,4,none⟩ cv'):=TFr.set hbx rfl _;exact⟨⟨hbx,t1,b1⟩,⟨h.low,hbx.set4 cv',yw (yI k.nr k.cr hg (by decide)) hbx (by decide) _,yw ho hbx (by decide) _,yw (yI k.ar k.cr hg (by decide)) hbx (by decide) _,yw (yI k.er k.cr hg (by decide)) hbx (by decide) _,h.al,fun i h1 h2=>(t1.trans t2).prs (h.ap i h1 h2),h.el,fun y hy=>(t1.trans t2).prs (h.ep y hy)⟩,t1.trans t2,b1.setCell h.low _⟩
theorem StB.growA {W Wd w1:World}{B b:Nat}{nm:Nm}{d:Bool}{s:Sta}{x:StV}{av' v:Value}{a:List Pr}(h:StB W B b nm d s x)(hb:Below W.heap.size W Wd)(hg:Wd.grownBy w1 x.av.ownBlock)(ho:ynF w1 B av' (x.avs++[v]))(hv:PrsT W v a) :
    (stb w1 b nm d x.nv x.cv x.av x.ev s.e/\TFr W w1/\Below B W w1)/\StB (w1.setCell ⟨b,5,none⟩ av') B b nm d ⟨s.ns,s.ats++[a],s.cs,s.en,s.e⟩ ⟨x.nv,x.cv,av',x.ev,x.avs++[v],x.evs⟩/\TFr W (w1.setCell ⟨b,5,none⟩ av')/\Below B W (w1.setCell ⟨b,5,none⟩ av'):=by
 have k:=h.below hb;have hbx:stb w1 b nm d x.nv x.cv x.av x.ev s.e:=yaF k.box k.ar hg (by decide);have t1:TFr W w1:=(TFr.below hb).trans (ydP k.ar hg rfl);have b1:Below B W w1:=(hb.mono h.base).trans (ybe k.ar hg k.base);have t2:TFr w1 (w1.setCell ⟨b,5,none⟩ av'):=TFr.set hbx rfl _;refine⟨⟨hbx,t1,b1⟩,⟨h.low,hbx.set5 av',yw (yI k.nr k.ar hg (by decide)) hbx (by decide) _,yw (yI k.cr k.ar hg (by decide)) hbx (by decide) _,yw ho hbx (by decide) _,yw (yI k.er k.ar hg (by decide)) hbx (by decide) _,?_,fun i h1 h2=>?_,h.el,fun y hy=>(t1.trans t2).prs (h.ep y hy)⟩,t1.trans t2,b1.setCell h.low _⟩
 ·show (x.avs++[v]).length=(s.ats++[a]).length
  rw[List.length_append,List.length_append,h.al];rfl
 ·have hal:=h.al
  rcases Nat.lt_or_ge i x.avs.length with q | q
  ·rw[List.getElem_append_left q,List.getElem_append_left (by omega)];exact(t1.trans t2).prs (h.ap i q (by omega))
  ·rw[List.getElem_append_right q,List.getElem_append_right (by omega)]
   rw[List.getElem_singleton,List.getElem_singleton];exact(t1.trans t2).prs hv
theorem StB.growE {W Wd w1:World}{B b:Nat}{nm:Nm}{d:Bool}{s:Sta}{x:StV}{ev' v:Value}{e:En}(h:StB W B b nm d s x)(hb:Below W.heap.size W Wd)(hg:Wd.grownBy w1 x.ev.ownBlock)(ho:Erow w1 B ev' (x.evs++[(e,v)]))(hv:PrsT Wd v e.ats) :
    (stb w1 b nm d x.nv x.cv x.av x.ev s.e/\TFr W w1/\Below B W w1)/\StB (w1.setCell ⟨b,6,none⟩ ev') B b nm d ⟨s.ns,s.ats,s.cs,s.en++[e],s.e⟩ ⟨x.nv,x.cv,x.av,ev',x.avs,x.evs++[(e,v)]⟩/\TFr W (w1.setCell ⟨b,6,none⟩ ev')/\Below B W (w1.setCell ⟨b,6,none⟩ ev'):=by
 have k:=h.below hb;have hbx:stb w1 b nm d x.nv x.cv x.av x.ev s.e:=yaF k.box k.er hg (by decide);have t0:TFr Wd w1:=ydP k.er hg rfl;have t1:TFr W w1:=(TFr.below hb).trans t0;have b1:Below B W w1:=(hb.mono h.base).trans (ybe k.er hg k.base);have t2:TFr w1 (w1.setCell ⟨b,6,none⟩ ev'):=TFr.set hbx rfl _;refine⟨⟨hbx,t1,b1⟩,⟨h.low,hbx.set6 ev',yw (yI k.nr k.er hg (by decide)) hbx (by decide) _,yw (yI k.cr k.er hg (by decide)) hbx (by decide) _,yw (yI k.ar k.er hg (by decide)) hbx (by decide) _,yw ho hbx (by decide) _,h.al,fun i h1 h2=>(t1.trans t2).prs (h.ap i h1 h2),?_,fun y hy=>?_⟩,t1.trans t2,b1.setCell h.low _⟩
 ·show (x.evs++[(e,v)]).map (·.1)=s.en++[e]
  rw[List.map_append,h.el];rfl
 ·rcases List.mem_append.1 hy with q | q
  ·exact(t1.trans t2).prs (h.ep y q)
  ·rw[List.mem_singleton.1 q];exact(t0.trans t2).prs hv
end Go.Proofs.YtgmidodmmlmmeaaGreatDoor.nor
namespace Go.Proofs.YtgmidodmmlmmeaaGreatDoor.nor
open lex tre att
structure Bs where
 ns:List Cl
 ats:List (List Pr)
 cs:List Cl
 ch:List (List Pr × List Pr)
def yaS (s:Bs)(n:Nm)(p:Pl):Bs:=if yG s.ns n 0<0 then ⟨s.ns++[(n,p.cl)],s.ats++[p.dn],s.cs,s.ch⟩ else s
def y8:List Pr->Bs->Pl->Bs × Int
 | [],s,_=>(s,0)
 | r::t,s,p=>if yaw s.cs r.1=true then (s,6) else y8 t (yaS s r.1 p) p
mutual
def ydq:St->Pl->Bs->Bs × Int
 | .mk k n r a b,p,s =>
  if k=1 then (if yaw s.cs n=true then (s,6) else (⟨(yaS s n p).ns,ycB (yaS s n p).ats (yG (yaS s n p).ns n 0) a,(yaS s n p).cs,(yaS s n p).ch⟩,0))
  else if k=2 then (if (y8 r s p).2≠0 then ((y8 r s p).1,(y8 r s p).2) else (⟨(y8 r s p).1.ns,(y8 r s p).1.ats,(y8 r s p).1.cs,(y8 r s p).1.ch++[(r,yB p.de a)]⟩,0))
  else if k=5 then (if yaw s.cs n=true\/0<=yG s.ns n 0 then (s,6) else yhS b ⟨s.cs.length,p.dn,p.de⟩ ⟨s.ns,s.ats,s.cs++[(n,p.cl)],s.ch⟩)
  else (s,0)
def yhS:List St->Pl->Bs->Bs × Int
 | [],_,s=>(s,0)
 | .mk k n r a b::t,p,s=>if stE k n a≠0 then (s,stE k n a) else if (ydq (.mk k n r a b) (dflt k n a p) s).2≠0 then ((ydq (.mk k n r a b) (dflt k n a p) s).1,(ydq (.mk k n r a b) (dflt k n a p) s).2) else yhS t (dflt k n a p) (ydq (.mk k n r a b) (dflt k n a p) s).1
end
theorem ycT (p:Pl)(s:Bs):yhS [] p s=(s,0):=by rw[yhS]
theorem yb5 (x:St)(t:List St)(p:Pl)(s:Bs):yhS (x::t) p s=if stE x.kind x.name x.attrs≠0 then (s,stE x.kind x.name x.attrs) else if (ydq x (dflt x.kind x.name x.attrs p) s).2≠0 then ((ydq x (dflt x.kind x.name x.attrs p) s).1,(ydq x (dflt x.kind x.name x.attrs p) s).2) else yhS t (dflt x.kind x.name x.attrs p) (ydq x (dflt x.kind x.name x.attrs p) s).1:=by
 cases x;rw[yhS];rfl
theorem yf3 (n:Nm)(r a:List Pr)(b:List St)(p:Pl)(s:Bs):ydq (.mk 1 n r a b) p s=if yaw s.cs n=true then (s,6) else (⟨(yaS s n p).ns,ycB (yaS s n p).ats (yG (yaS s n p).ns n 0) a,(yaS s n p).cs,(yaS s n p).ch⟩,0):=by rw[ydq];rfl
theorem yf4 (n:Nm)(r a:List Pr)(b:List St)(p:Pl)(s:Bs):ydq (.mk 2 n r a b) p s=if (y8 r s p).2≠0 then ((y8 r s p).1,(y8 r s p).2) else (⟨(y8 r s p).1.ns,(y8 r s p).1.ats,(y8 r s p).1.cs,(y8 r s p).1.ch++[(r,yB p.de a)]⟩,0):=by rw[ydq];rfl
theorem yf5 (n:Nm)(r a:List Pr)(b:List St)(p:Pl)(s:Bs):ydq (.mk 5 n r a b) p s=if yaw s.cs n=true\/0<=yG s.ns n 0 then (s,6) else yhS b ⟨s.cs.length,p.dn,p.de⟩ ⟨s.ns,s.ats,s.cs++[(n,p.cl)],s.ch⟩:=by rw[ydq];rfl
theorem yf6 {k:Int}(h1:k≠1)(h2:k≠2)(h5:k≠5){n:Nm}{r a:List Pr}{b:List St}{p:Pl}{s:Bs}:ydq (.mk k n r a b) p s=(s,0):=by rw[ydq,if_neg h1,if_neg h2,if_neg h5]
theorem ycJ (m:Nm)(x:Cl):∀ (l:List Cl) (i:Nat),yG (l++[x]) m i=if 0<=yG l m i then yG l m i else if x.1=m then ((i+l.length:Nat):Int) else -1
 | [],i=>by simp[yG]
 | y::t,i=>by
  rw[List.cons_append];unfold yG
  by_cases h:y.1=m
  ·simp only[if_pos h];rw[if_pos (by omega)]
  ·simp only[if_neg h]
   rw[ycJ m x t (i+1),List.length_cons,show i+1+t.length=i+(t.length+1) by omega]
theorem ygQ (n:Nm):∀ (l:List Cl) (i:Nat),yG l n i<((i+l.length:Nat):Int)
 | [],i=>by show (-1:Int)<_;omega
 | x::t,i=>by
  unfold yG
  split
  ·rw[List.length_cons];omega
  ·have:=ygQ n t (i+1)
   rw[List.length_cons];omega
def enF (ns:List Cl)(ch:List (List Pr × List Pr)):List En:=ch.flatMap fun c=>yaz (c.1.map fun r=>yG ns r.1 0) c.1 c.2
structure Rel (c:Bs)(s:Sta):Prop where
 ns:s.ns=c.ns
 ats:s.ats=c.ats
 cs:s.cs=c.cs
 en:s.en=enF c.ns c.ch
 e:s.e=0
 kn:∀ x∈c.ch,∀ r∈x.1,0<=yG c.ns r.1 0
theorem yn5 {ns:List Cl}{x:Cl}{l:List Pr}(h:∀ r∈l,0<=yG ns r.1 0):l.map (fun r=>yG (ns++[x]) r.1 0)=l.map (fun r=>yG ns r.1 0) :=
 List.map_congr_left fun r hr=>by rw[ycJ,if_pos (h r hr)]
theorem yjD {ns:List Cl}{x:Cl}:∀ {ch:List (List Pr × List Pr)},(∀ y∈ch,∀ r∈y.1,0<=yG ns r.1 0)->enF (ns++[x]) ch=enF ns ch
 | [],_=>rfl
 | c::t,h=>by
  show yaz _ _ _++enF (ns++[x]) t=yaz _ _ _++enF ns t
  rw[yjD fun y hy=>h y (List.mem_cons_of_mem _ hy),yn5 (h c (List.mem_cons_self ..))]
theorem yq5 {ns:List Cl}{x:Cl}{n:Nm}(h:0<=yG ns n 0):0<=yG (ns++[x]) n 0:=by rw[ycJ,if_pos h];exact h
theorem ygR {c:Bs}{s:Sta}(h:Rel c s)(n:Nm)(p:Pl)(hc:yaw c.cs n=true):(yN s n p).e=6:=by
 unfold yN;rw[h.cs]
 split
 ·exact if_pos ⟨h.e,hc⟩
 ·exact if_pos ⟨h.e,hc⟩
theorem yjE {c:Bs}{s:Sta}(h:Rel c s)(n:Nm)(p:Pl)(hc:¬ yaw c.cs n=true):Rel (yaS c n p) (yN s n p)/\ybS s n=yG (yaS c n p).ns n 0/\0<=yG (yaS c n p).ns n 0/\∀ m,0<=yG c.ns m 0->yG (yaS c n p).ns m 0=yG c.ns m 0:=by
 unfold yN yaS ybS;have he:(if s.e=0/\yaw c.cs n=true then (6:Int) else s.e)=s.e:=if_neg (fun q=>hc q.2);rw[h.cs,h.ns,he]
 by_cases hn:yG c.ns n 0<0
 ·simp only[if_pos hn]
  have e1:yG (c.ns++[(n,p.cl)]) n 0=(c.ns.length:Int):=by rw[ycJ,if_neg (by omega),if_pos rfl];simp
  refine⟨⟨rfl,?_,rfl,?_,h.e,fun x hx r hr=>yq5 (h.kn x hx r hr)⟩,?_,?_,fun m hm=>by show yG (c.ns++_) m 0=_;rw[ycJ,if_pos hm]⟩
  ·show s.ats++_=c.ats++_;rw[h.ats]
  ·show s.en=enF (c.ns++_) c.ch;rw[yjD h.kn];exact h.en
  ·exact e1.symm
  ·show 0<=yG (c.ns++[(n,p.cl)]) n 0;rw[e1];omega
 ·simp only[if_neg hn]
  exact⟨⟨rfl,h.ats,rfl,h.en,h.e,h.kn⟩,trivial,by omega,fun _ _=>trivial⟩
theorem ylF (p:Pl):∀ (l:List Pr) (s:Sta),s.e≠0->y7 l s p=s
 | [],_,_=>rfl
 | r::t,s,h=>by unfold y7;rw[if_pos h]
theorem yjF (p:Pl):∀ (l:List Pr) (c:Bs) (s:Sta),Rel c s->(y8 l c p).2=(y7 l s p).e/\((y7 l s p).e=0->Rel (y8 l c p).1 (y7 l s p)/\ybb l s p=l.map (fun r=>yG (y8 l c p).1.ns r.1 0)/\(∀ r∈l,0<=yG (y8 l c p).1.ns r.1 0)/\∀ m,0<=yG c.ns m 0->yG (y8 l c p).1.ns m 0=yG c.ns m 0)
 | [],c,s,h=>⟨h.e.symm,fun _=>⟨h,rfl,fun r hr=>(by cases hr),fun _ _=>rfl⟩⟩
 | r::t,c,s,h=>by
  have eS:y7 (r::t) s p=y7 t (yN s r.1 p) p:=if_neg (by simp[h.e]);have eI:ybb (r::t) s p=ybS s r.1::ybb t (yN s r.1 p) p:=if_neg (by simp[h.e]);rw[eS,eI]
  by_cases hc:yaw c.cs r.1=true
  ·have eC:y8 (r::t) c p=(c,6):=if_pos hc
   rw[eC];have h6:=ygR h r.1 p hc;rw[ylF p t _ (by rw[h6];decide),h6];exact⟨rfl,fun q=>absurd q (by decide)⟩
  ·have eC:y8 (r::t) c p=y8 t (yaS c r.1 p) p:=if_neg hc
   rw[eC];obtain⟨m1,m2,m3,m4⟩:=yjE h r.1 p hc;obtain⟨q1,q2⟩:=yjF p t _ _ m1;refine⟨q1,fun q=>?_⟩;obtain⟨r1,r2,r3,r4⟩:=q2 q;have e1:=r4 r.1 m3;refine⟨r1,?_,fun x hx=>?_,fun m hm=>?_⟩
   ·rw[List.map_cons,r2,m2,e1]
   ·rcases List.mem_cons.1 hx with rfl | hx
    ·rw[e1];exact m3
    ·exact r3 x hx
   ·rw[r4 m (by rw[m4 m hm];exact hm),m4 m hm]
theorem ylG {c:Bs}{s:Sta}(h:Rel c s)(rs a:List Pr)(p:Pl):(if (y8 rs c p).2≠0 then ((y8 rs c p).1,(y8 rs c p).2) else ((⟨(y8 rs c p).1.ns,(y8 rs c p).1.ats,(y8 rs c p).1.cs,(y8 rs c p).1.ch++[(rs,yB p.de a)]⟩:Bs),(0:Int))).2=(yaL s rs a p).e /\
    ((yaL s rs a p).e=0->Rel (if (y8 rs c p).2≠0 then ((y8 rs c p).1,(y8 rs c p).2) else ((⟨(y8 rs c p).1.ns,(y8 rs c p).1.ats,(y8 rs c p).1.cs,(y8 rs c p).1.ch++[(rs,yB p.de a)]⟩:Bs),(0:Int))).1 (yaL s rs a p)):=by
 obtain⟨q1,q2⟩:=yjF p rs c s h;rw[q1];unfold yaL
 by_cases he:(y7 rs s p).e≠0
 ·rw[if_pos he,if_pos he]
  exact⟨rfl,fun q=>absurd q he⟩
 ·rw[if_neg he,if_neg he]
  have he':(y7 rs s p).e=0:=by simpa using he
  obtain⟨r1,r2,r3,r4⟩:=q2 he';refine⟨he'.symm,fun _=>⟨r1.ns,r1.ats,r1.cs,?_,r1.e,fun x hx r hr=>?_⟩⟩
  ·show (y7 rs s p).en++_=enF _ (_++[_])
   rw[r1.en,r2];unfold enF;rw[List.flatMap_append];simp
  ·rcases List.mem_append.1 hx with hx | hx
   ·exact r1.kn x hx r hr
   ·rw[List.mem_singleton] at hx;subst hx;exact r3 r hr
theorem ybD {k:Int}(h:k≠3)(n:Nm)(a:List Pr)(p:Pl):dflt k n a p=p:=if_neg h
theorem yq6:(∀ x:St,∀ (p:Pl) (c:Bs) (s:Sta),Rel c s->(ydq x (dflt x.kind x.name x.attrs p) c).2=(ya9 x p s).e/\((ya9 x p s).e=0->Rel (ydq x (dflt x.kind x.name x.attrs p) c).1 (ya9 x p s))) /\
    ∀ l:List St,∀ (p:Pl) (c:Bs) (s:Sta),Rel c s->(yhS l p c).2=(yX l p s).e/\((yX l p s).e=0->Rel (yhS l p c).1 (yX l p s)):=by
 refine ya2 (fun k n r a b hb p c s h=>?_) (fun p c s h=>?_) (fun x t hx ht p c s h=>?_)
 ·show (ydq (.mk k n r a b) (dflt k n a p) c).2=(ya9 (.mk k n r a b) p s).e/\((ya9 (.mk k n r a b) p s).e=0->Rel (ydq (.mk k n r a b) (dflt k n a p) c).1 (ya9 (.mk k n r a b) p s))
  by_cases h1:k=1
  ·subst h1
   rw[ybD (by decide),yf3,yhH]
   by_cases hc:yaw c.cs n=true
   ·rw[if_pos hc]
    exact⟨(ygR h n p hc).symm,fun q=>absurd ((ygR h n p hc).symm.trans q) (by decide)⟩
   ·rw[if_neg hc]
    obtain⟨m1,m2,m3,m4⟩:=yjE h n p hc;refine⟨m1.e.symm,fun _=>⟨m1.ns,?_,m1.cs,m1.en,m1.e,m1.kn⟩⟩
    show ycB (yN s n p).ats (ybS s n) a=ycB (yaS c n p).ats _ a
    rw[m1.ats,m2]
  by_cases h2:k=2
  ·subst h2
   rw[ybD (by decide),yf4,yhI];exact ylG h r a p
  by_cases h5:k=5
  ·subst h5
   rw[ybD (by decide),yf5,yjt,h.cs,h.ns]
   by_cases hc:yaw c.cs n=true\/0<=yG c.ns n 0
   ·rw[if_pos hc,if_pos hc]
    exact⟨rfl,fun q=>absurd (show (6:Int)=0 from q) (by decide)⟩
   ·rw[if_neg hc,if_neg hc]
    exact hb _ _ _ ⟨rfl,h.ats,rfl,h.en,h.e,h.kn⟩
  ·rw[yf6 h1 h2 h5,show ya9 (.mk k n r a b) p s=s by rw[ya9,if_neg h1,if_neg h2,if_neg h5]]
   exact⟨h.e.symm,fun _=>h⟩
 ·rw[ycT,ybc];exact⟨h.e.symm,fun _=>h⟩
 ·have eS:yX (x::t) p s=if stE x.kind x.name x.attrs≠0 then ⟨s.ns,s.ats,s.cs,s.en,stE x.kind x.name x.attrs⟩ else yX t (dflt x.kind x.name x.attrs p) (ya9 x p s):=by rw[yaR];exact if_neg (by simp[h.e])
  rw[yb5,eS]
  by_cases hE:stE x.kind x.name x.attrs≠0
  ·rw[if_pos hE,if_pos hE]
   exact⟨rfl,fun q=>absurd q hE⟩
  ·rw[if_neg hE,if_neg hE]
   obtain⟨q1,q2⟩:=hx p c s h
   by_cases he:(ydq x (dflt x.kind x.name x.attrs p) c).2≠0
   ·rw[if_pos he]
    have hz:(ya9 x p s).e≠0:=by rw[<- q1];exact he
    have hd:∀ l q,yX l q (ya9 x p s)=ya9 x p s:=fun l q=>by
     cases l with
     | nil=>rw[ybc]
     | cons y u=>rw[yaR,if_pos hz]
    rw[hd];exact⟨q1,fun q=>absurd q hz⟩
   ·rw[if_neg he]
    have hz:(ya9 x p s).e=0:=by rw[<- q1];simpa using he
    exact ht _ _ _ (q2 hz)
theorem yjG (n:Nm):∀ (l:List (Nm × Int)) (i:Nat),yda l n i=-2\/(i:Int)<=yda l n i
 | [],_=>Or.inl rfl
 | x::t,i=>by
  unfold yda
  split
  ·exact Or.inr (Int.le_refl _)
  ·rcases yjG n t (i+1) with h | h
   ·exact Or.inl h
   ·exact Or.inr (by omega)
def yhT (x:gra.Ed):Bool:=decide (x.fp=-2)||decide (x.tp=-2)
theorem yn6 (l:List (Nm × Int))(n:Nm):-2<=ycC l n:=by
 unfold ycC
 split
 ·omega
 ·rcases yjG n l 0 with h | h
  ·rw[h];omega
  ·omega
theorem yqp (x:Cl)(l:List Pr):(ygJ x l).ps=(yaQ (yai l yY).1).1:=by
 unfold ygJ
 by_cases h:(yai l yY).2=true
 ·rw[if_pos h]
 ·have e:yai l yY=([],false):=ybZ (by simpa using h)
  rw[if_neg h,e];rfl
theorem ygS:∀ (l:List (List Pr)) (i:Int) (m:List Pr),(ycB l i m).length=l.length
 | [],_,_=>rfl
 | a::t,i,m=>by unfold ycB;rw[List.length_cons,ygS t,List.length_cons]
theorem yhU {c:Bs}(h:c.ns.length=c.ats.length)(n:Nm)(p:Pl):(yaS c n p).ns.length=(yaS c n p).ats.length:=by
 unfold yaS
 split
 ·simp[h]
 ·exact h
theorem ye5 (p:Pl):∀ (l:List Pr) (c:Bs),c.ns.length=c.ats.length->(y8 l c p).1.ns.length=(y8 l c p).1.ats.length
 | [],_,h=>h
 | r::t,c,h=>by
  unfold y8
  split
  ·exact h
  ·exact ye5 p t _ (yhU h _ _)
theorem yn7:(∀ x:St,∀ (p:Pl) (c:Bs),c.ns.length=c.ats.length->(ydq x p c).1.ns.length=(ydq x p c).1.ats.length) /\
    ∀ l:List St,∀ (p:Pl) (c:Bs),c.ns.length=c.ats.length->(yhS l p c).1.ns.length=(yhS l p c).1.ats.length:=by
 refine ya2 (fun k n r a b hb p c h=>?_) (fun p c h=>?_) (fun x t hx ht p c h=>?_)
 ·by_cases h1:k=1
  ·subst h1
   rw[yf3]
   split
   ·exact h
   ·show (yaS c n p).ns.length=(ycB _ _ _).length
    rw[ygS];exact yhU h _ _
  by_cases h2:k=2
  ·subst h2
   rw[yf4]
   split
   ·exact ye5 p r c h
   ·exact ye5 p r c h
  by_cases h5:k=5
  ·subst h5
   rw[yf5]
   split
   ·exact h
   ·exact hb _ _ h
  ·rw[yf6 h1 h2 h5];exact h
 ·rw[ycT];exact h
 ·rw[yb5]
  split
  ·exact h
  ·split
   ·exact hx _ _ h
   ·exact ht _ _ (hx _ _ h)
def bs0:Bs:=⟨[],[],[],[]⟩
theorem rel0:Rel bs0 st0:=⟨rfl,rfl,rfl,rfl,rfl,fun x hx=>by cases hx⟩
def ylH (c:Bs):List gra.Nd:=List.zipWith ygJ c.ns c.ats
theorem yhV:∀ (is:List Int) (l m:List Pr),(yaz is l m).length<=l.length
 | [],_,_=>by simp[yaz]
 | [_],_,_=>by simp[yaz]
 | _::_::_,[],_=>by simp[yaz]
 | _::_::_,[_],_=>by simp[yaz]
 | _::b::t,_::q::u,m=>by
  unfold yaz;have:=yhV (b::t) (q::u) m;simp only[List.length_cons] at this |-;omega
theorem yf7 {a x:Nm}:∀ {l:List Nm},x∈l->x≠a->x∈l.erase a
 | [],h,_=>by cases h
 | y::t,h,hne=>by
  rw[List.erase_cons]
  split
  ·rename_i hy
   rcases List.mem_cons.1 h with rfl | h
   ·exact absurd (by simpa using hy) hne
   ·exact h
  ·rcases List.mem_cons.1 h with rfl | h
   ·exact List.mem_cons_self ..
   ·exact List.mem_cons_of_mem _ (yf7 h hne)
theorem yjH:∀ {l K:List Nm},l.Nodup->(∀ x∈l,x∈K)->l.length<=K.length
 | [],_,_,_=>Nat.zero_le _
 | a::t,K,h,hs=>by
  rw[List.nodup_cons] at h;have ha:=hs a (List.mem_cons_self ..);have:=yjH (K:=K.erase a) h.2 (fun x hx=>yf7 (hs x (List.mem_cons_of_mem _ hx)) (fun e=>h.1 (e ▸ hx)));rw[List.length_erase_of_mem ha] at this;have hp:=List.length_pos_of_mem ha;rw[List.length_cons];omega
theorem ydr:∀ {l:List Pr},Asc l->(l.map (·.1)).Nodup
 | [],_=>List.nodup_nil
 | x::t,h=>by
  rw[List.map_cons,List.nodup_cons];refine⟨fun q=>?_,ydr h.2⟩;obtain⟨y,hy,e⟩:=List.mem_map.1 q;have:=h.1 y hy;rw[e] at this;exact yc2 _ this
def yn8:List Nm:=[yE,yao,yQ,yY,yV,yej,ycv,yam,yan,yaM,yaN]
theorem ylI {k:Int}{a:Pr}(h:yaa k a=0):a.1∈yn8:=by
 unfold yaa at h
 split at h
 ·exact absurd h (by decide)
 split at h
 ·exact absurd h (by decide)
 rename_i h2
 unfold yo ruN ruE ruS at h2;unfold yn8;simp only[List.mem_cons,List.not_mem_nil,or_false]
 repeat' (first | (split at h2))
 all_goals first | (exact absurd rfl h2) | simp_all
def Ga (k:Int)(l:List Pr):Prop:=(∀ a∈l,yaa k a=0)/\Asc l
theorem Ga.len {k:Int}{l:List Pr}(h:Ga k l):l.length<=11:=by
 have:=yjH (ydr h.2) (K:=yn8) (fun x hx=>by
  obtain⟨a,ha,e⟩:=List.mem_map.1 hx
  exact e ▸ ylI (h.1 a ha))
 simpa [yn8] using this
theorem Ga.nil (k:Int):Ga k []:=⟨fun a h=>(by cases h),trivial⟩
theorem ylJ {k:Int}:∀ {l:List Pr},yb1 k l=0->∀ a∈l,yaa k a=0
 | [],_,a,h=>by cases h
 | x::t,h,a,ha=>by
  unfold yb1 at h
  split at h
  ·rename_i hne;exact absurd h hne
  ·rename_i hne
   rcases List.mem_cons.1 ha with rfl | ha
   ·simpa using hne
   ·exact ylJ h a ha
theorem Ga.merge {k:Int}{l m:List Pr}(h:Ga k l)(hm:yb1 k m=0):Ga k (yB l m) :=
 ⟨fun a ha=>by
  rcases List.mem_append.1 (ygF _ a ha) with q | q
  ·exact h.1 a q
  ·exact ylJ hm a q,ylm l m⟩
def okS (s:St):Prop:=(∃ lv,ybs s lv=0)/\True
def okB (l:List St):Prop:=∀ y∈ybt l 0,okS y.1
theorem ybN {x:St}{t:List St}(h:okB (x::t)):okS x/\okB x.body/\okB t:=by
 unfold okB at h |-;rw[yH,y6] at h;refine⟨h (x,0) (by simp),fun y hy=>?_,fun y hy=>h y (by simp[hy])⟩;obtain⟨lv,hlv⟩:=yez.2 x.body 0 (if x.kind=5 then (0:Int)+1 else 0) y hy;exact h (y.1,lv) (by simp only[List.cons_append,List.mem_cons,List.mem_append];exact Or.inr (Or.inl hlv))
theorem yqq {T:Tr}(h:yab T=0):okB T.body:=fun y hy=>⟨⟨y.2,((yaO T).1 h).2.2 y hy⟩,trivial⟩
theorem ysS {l:List St}{i:Nat}(h:okB (l.drop i))(hi:i<l.length):okS l[i]/\okB l[i].body/\okB (l.drop (i+1)):=by
 rw[List.drop_eq_getElem_cons hi] at h;exact ybN h
mutual
def wS:St->Nat
 | .mk _ _ r _ b=>2+r.length+wl b
def wl:List St->Nat
 | []=>0
 | x::t=>wS x+wl t
end
theorem yf8:wl []=0:=by rw[wl]
theorem ydd (x:St)(t:List St):wl (x::t)=2+x.refs.length+wl x.body+wl t:=by
 obtain⟨k,n,r,a,b⟩:=x;rw[wl,wS];rfl
theorem wl_at {l:List St}{i:Nat}(hi:i<l.length):wl (l.drop i)=2+l[i].refs.length+wl l[i].body+wl (l.drop (i+1)):=by
 rw[List.drop_eq_getElem_cons hi,ydd]
theorem ysT (M:Nat):(∀ x:St,x.refs.length<=M->(∀ y∈ybt x.body 0,y.1.refs.length<=M)->wS x<=(2+M)*(1+cnt x.body))/\∀ l:List St,(∀ y∈ybt l 0,y.1.refs.length<=M)->wl l<=(2+M)*cnt l:=by
 refine ya2 (fun k n r a b hb hr h=>?_) (fun _=>?_) (fun x t hx ht h=>?_)
 ·simp only[St.refs,St.body] at hr h |-
  have:=hb h;rw[wS,Nat.mul_add,Nat.mul_one];omega
 ·rw[yf8];exact Nat.zero_le _
 ·rw[yH,y6] at h
  have h1:=hx (h (x,0) (by simp)) (fun y hy=>by
   obtain⟨lv,hlv⟩:=yez.2 x.body 0 (if x.kind=5 then (0:Int)+1 else 0) y hy
   exact h (y.1,lv) (by simp only[List.cons_append,List.mem_cons,List.mem_append];exact Or.inr (Or.inl hlv)))
  have h2:=ht (fun y hy=>h y (by simp[hy]));rw[wl,yaI,Nat.mul_add];rw[Nat.mul_add] at h1;rw[Nat.mul_add];omega
theorem wl_le {l:List St}(h:okL l):wl l<=42*cnt l:=(ysT 40).2 l fun y hy=>(h y hy).1
def sz (s:Bs):Nat:=s.ns.length+s.cs.length+s.ch.length
theorem ylK (s:Bs)(n:Nm)(p:Pl):sz (yaS s n p)<=sz s+1:=by
 unfold yaS sz
 split
 ·simp only[List.length_append,List.length_singleton];omega
 ·omega
theorem ylL (p:Pl):∀ (l:List Pr) (s:Bs),sz (y8 l s p).1<=sz s+l.length
 | [],s=>Nat.le_refl _
 | r::t,s=>by
  unfold y8
  split
  ·show sz s<=_;omega
  ·have h1:=ylL p t (yaS s r.1 p)
   have h2:=ylK s r.1 p;rw[List.length_cons];omega
theorem ysU:(∀ x:St,∀ (p:Pl) (s:Bs),okS x->okB x.body->sz (ydq x p s).1<=sz s+(2+x.refs.length+wl x.body)) /\
    ∀ l:List St,∀ (p:Pl) (s:Bs),okB l->sz (yhS l p s).1<=sz s+wl l:=by
 refine ya2 (fun k n r a b hb p s ho hk=>?_) (fun p s _=>?_) (fun x t hx ht p s ho=>?_)
 ·simp only[St.body,St.refs] at hk |-
  by_cases h1:k=1
  ·subst h1
   rw[yf3]
   split
   ·show sz s<=_;omega
   ·have:=ylK s n p
    show sz (yaS s n p)<=_
    omega
  by_cases h2:k=2
  ·subst h2
   rw[yf4];have:=ylL p r s
   split
   ·show sz (y8 r s p).1<=_;omega
   ·unfold sz at this |-
    simp only[List.length_append,List.length_singleton];omega
  by_cases h5:k=5
  ·subst h5
   rw[yf5]
   split
   ·show sz s<=_;omega
   ·have:=hb ⟨s.cs.length,p.dn,p.de⟩ ⟨s.ns,s.ats,s.cs++[(n,p.cl)],s.ch⟩ hk
    have e:sz (⟨s.ns,s.ats,s.cs++[(n,p.cl)],s.ch⟩:Bs)=sz s+1:=by unfold sz;simp only[List.length_append,List.length_singleton];omega
    omega
  ·rw[yf6 h1 h2 h5];show sz s<=_;omega
 ·rw[ycT];show sz s<=_;omega
 ·obtain⟨o1,o2,o3⟩:=ybN ho
  rw[yb5,ydd];have q1:=hx (dflt x.kind x.name x.attrs p) s o1 o2
  split
  ·show sz s<=_;omega
  ·split
   ·show sz (ydq _ _ _).1<=_;omega
   ·have q2:=ht (dflt x.kind x.name x.attrs p) (ydq x (dflt x.kind x.name x.attrs p) s).1 o3
    omega
def GaP (p:Pl):Prop:=Ga 1 p.dn/\Ga 2 p.de
def GaS (s:Bs):Prop:=(∀ a∈s.ats,Ga 1 a)/\∀ c∈s.ch,Ga 2 c.2
theorem GaP.dflt {p:Pl}(h:GaP p){k:Int}{n:Nm}{a:List Pr}(he:stE k n a=0)(hk:k=3->n=yc0\/n=ybR):GaP (dflt k n a p):=by
 unfold nor.dflt
 split
 ·rename_i h3
  subst h3;unfold stE at he;rw[if_neg (by decide)] at he
  split
  ·rename_i hn
   subst hn;rw[if_neg (fun q=>q.elim (fun e=>absurd e (by decide)) (fun e=>absurd e.2 (by decide)))] at he;exact⟨h.1.merge he,h.2⟩
  ·rename_i hn
   have hw:n=ybR:=(hk rfl).resolve_left hn;rw[if_pos (Or.inr ⟨rfl,hw⟩)] at he;exact⟨h.1,h.2.merge he⟩
 ·exact h
theorem GaS.ment {s:Bs}{p:Pl}(h:GaS s)(hp:GaP p)(n:Nm):GaS (yaS s n p):=by
 unfold yaS
 split
 ·refine⟨fun a ha=>?_,h.2⟩
  rcases List.mem_append.1 ha with q | q
  ·exact h.1 a q
  ·rw[List.mem_singleton] at q;subst q;exact hp.1
 ·exact h
theorem GaS.refs {p:Pl}(hp:GaP p):∀ (l:List Pr) (s:Bs),GaS s->GaS (y8 l s p).1
 | [],_,h=>h
 | r::t,s,h=>by
  unfold y8
  split
  ·exact h
  ·exact GaS.refs hp t _ (h.ment hp _)
theorem ygT (m:List Pr):∀ (l:List (List Pr)) (i:Int),∀ a∈ycB l i m,a∈l\/∃ b∈l,a=yB b m
 | [],_,a,h=>by cases h
 | b::t,i,a,h=>by
  unfold ycB at h
  rcases List.mem_cons.1 h with e | h
  ·split at e
   ·exact Or.inr ⟨b,List.mem_cons_self ..,e⟩
   ·exact Or.inl (e ▸ List.mem_cons_self ..)
  ·rcases ygT m t (i-1) a h with q | ⟨c,hc,e⟩
   ·exact Or.inl (List.mem_cons_of_mem _ q)
   ·exact Or.inr ⟨c,List.mem_cons_of_mem _ hc,e⟩
theorem GaS.chg {s:Bs}(h:GaS s)(i:Int){m:List Pr}(hm:yb1 1 m=0):GaS ⟨s.ns,ycB s.ats i m,s.cs,s.ch⟩ :=
 ⟨fun a ha=>by
  rcases ygT m s.ats i a ha with q | ⟨b,hb,rfl⟩
  ·exact h.1 a q
  ·exact(h.1 b hb).merge hm,h.2⟩
theorem ysV {n:Nm}{a:List Pr}(h:stE 1 n a=0):yb1 1 a=0:=by
 unfold stE at h;rw[if_neg (by decide),if_neg (fun q=>q.elim (fun e=>absurd e (by decide)) (fun e=>absurd e.1 (by decide)))] at h;exact h
theorem ysW {n:Nm}{a:List Pr}(h:stE 2 n a=0):yb1 2 a=0:=by
 unfold stE at h;rw[if_neg (by decide),if_pos (Or.inl rfl)] at h;exact h
theorem ye6 {s:St}(h:okS s)(hk:s.kind=3):s.name=yc0\/s.name=ybR:=by
 obtain⟨⟨lv,h⟩,-⟩:=h;unfold ybs at h
 split at h
 ·rename_i hne;exact absurd h hne
 rename_i hf
 have hf0:ydL s=0:=by simpa using hf
 unfold ydL at hf0
 split at hf0
 ·exact absurd hf0 (by decide)
 split at hf0
 ·exact absurd hf0 (by decide)
 split at hf0
 ·exact absurd hf0 (by decide)
 rename_i q
 by_cases h1:s.name=yc0
 ·exact Or.inl h1
 ·by_cases h2:s.name=ybR
  ·exact Or.inr h2
  ·exact absurd (Or.inl ⟨hk,h1,h2⟩) q
theorem GaS.chain {s:Bs}(h:GaS s){r a:List Pr}{p:Pl}(hp:GaP p)(ha:yb1 2 a=0):GaS ⟨s.ns,s.ats,s.cs,s.ch++[(r,yB p.de a)]⟩ :=
 ⟨h.1,fun c hc=>by
  rcases List.mem_append.1 hc with q | q
  ·exact h.2 c q
  ·rw[List.mem_singleton] at q;subst q;exact hp.2.merge ha⟩
theorem ysX:(∀ x:St,∀ (p:Pl) (s:Bs),okS x->okB x.body->stE x.kind x.name x.attrs=0->GaP p->GaS s->GaS (ydq x p s).1) /\
    ∀ l:List St,∀ (p:Pl) (s:Bs),okB l->GaP p->GaS s->GaS (yhS l p s).1:=by
 refine ya2 (fun k n r a b hb p s ho hk he hp hs=>?_) (fun p s _ _ hs=>?_) (fun x t hx ht p s ho hp hs=>?_)
 ·simp only[St.body,St.kind,St.name,St.attrs] at hk he
  by_cases h1:k=1
  ·subst h1
   rw[yf3]
   split
   ·exact hs
   ·exact(hs.ment hp n).chg _ (ysV he)
  by_cases h2:k=2
  ·subst h2
   rw[yf4]
   split
   ·exact GaS.refs hp r s hs
   ·exact(GaS.refs hp r s hs).chain hp (ysW he)
  by_cases h5:k=5
  ·subst h5
   rw[yf5]
   split
   ·exact hs
   ·exact hb _ _ hk ⟨hp.1,hp.2⟩ ⟨hs.1,hs.2⟩
  ·rw[yf6 h1 h2 h5];exact hs
 ·rw[ycT];exact hs
 ·obtain⟨o1,o2,o3⟩:=ybN ho
  rw[yb5]
  split
  ·exact hs
  ·rename_i he
   have he':stE x.kind x.name x.attrs=0:=by simpa using he
   have hp':=hp.dflt he' (ye6 o1);have q:=hx _ s o1 o2 he' hp' hs
   split
   ·exact q
   ·exact ht _ _ o3 hp' q
end Go.Proofs.YtgmidodmmlmmeaaGreatDoor.nor
namespace Go.Proofs.YtgmidodmmlmmeaaGreatDoor.nor
open Go.RowKit lex tre att
def opV (o:Op'):Value:=.agg #[.int .i64 o.mode,.int .i64 o.ns,.int .i64 o.rs,.int .i64 o.mg,.int .i64 o.rd]
end Go.Proofs.YtgmidodmmlmmeaaGreatDoor.nor
namespace Go.Proofs.YtgmidodmmlmmeaaGreatDoor.nor
open Go.RowKit lex tre att _root_.Go.Proofs.Tryz
theorem ypx:Tryz.prog.eqGuardType Tryz.prog.depth 28=false:=by kernel_rfl
theorem yto (u v:Op')(dq:Bool)(h:Hid (decide (u=v)=dq))(w:World):(binOp .eql 28 (.agg #[.int .i64 u.mode,.int .i64 u.ns,.int .i64 u.rs,.int .i64 u.mg,.int .i64 u.rd]) (.agg #[.int .i64 v.mode,.int .i64 v.ns,.int .i64 v.rs,.int .i64 v.mg,.int .i64 v.rd])).run Tryz.prog w=.ok (.bool dq) w:=by
 have hu:Tryz.prog.underlying 28=some (.struct (Tryz.prog.fieldsOf 28)):=by kernel_rfl
 have hp:Tryz.prog.stoodInHeld 28=false:=by kernel_rfl
 obtain⟨a0,a1,a2,a3,a4⟩:=u;obtain⟨c0,c1,c2,c3,c4⟩:=v;simp only[Op'.mk.injEq] at h;rw[run_eql_struct,run_equalIn_agg w 9999 _ _ _ hu hp,<- h.out]
 by_cases h0:a0=c0 <;> by_cases h1:a1=c1 <;> by_cases h2:a2=c2 <;> by_cases h3:a3=c3 <;> by_cases h4:a4=c4 <;> simp[go_sem,Op.eqFields,Program.fieldsOf,underlying28,underlying3,h0,h1,h2,h3,h4]
theorem ypy (n m:Int)(w:World):Calls Tryz.prog 64 #[.int .i64 n,.int .i64 m] w fun e w'=>e=.returned (.int .i64 (min (max n 0) m))/\w'=w:=by
 go_enter func64,ntmps64;go_wp2;go_ret;exact⟨rfl,rfl⟩
abbrev at5 (W:World)(b:Nat)(o:Op'):Prop:=W.cell? ⟨b,0,none⟩=some (.int .i64 o.mode)/\W.cell? ⟨b,1,none⟩=some (.int .i64 o.ns)/\W.cell? ⟨b,2,none⟩=some (.int .i64 o.rs)/\W.cell? ⟨b,3,none⟩=some (.int .i64 o.mg)/\W.cell? ⟨b,4,none⟩=some (.int .i64 o.rd)
theorem ycj (w:World)(o:Op')(t:TypeId):at5 (w.alloc (.cells #[.int .i64 o.mode,.int .i64 o.ns,.int .i64 o.rs,.int .i64 o.mg,.int .i64 o.rd] t)) w.heap.size o:=by
 refine⟨?_,?_,?_,?_,?_⟩ <;> go_simp
def yfO (o:Op'):Op':=⟨min (max o.mode 0) 4,min (max o.ns 0) 1048576,min (max o.rs 0) 1048576,min (max o.mg 0) 1048576,min (max o.rd 0) 100⟩
theorem yr8 (o:Op'):decide (o=yfO o)=okO o:=by
 obtain⟨a,b,c,d,e⟩:=o;rw[Bool.eq_iff_iff,decide_eq_true_eq];unfold yfO okO rng;simp only[Op'.mk.injEq,Bool.and_eq_true,decide_eq_true_eq];omega
theorem ytp {a W:World}{b:Nat}{o:Op'}(h:Below a.heap.size a W/\at5 W b o):Below a.heap.size a W.drew/\at5 W.drew b o:=⟨h.1.drew,h.2⟩
theorem ymT {a W:World}{b:Nat}{o:Op'}{x:Obj}(h:Below a.heap.size a W/\at5 W b o):Below a.heap.size a (W.alloc x)/\at5 (W.alloc x) b o :=
 ⟨h.1.alloc h.1.size x,yb (al1 ..) h.2.1,yb (al1 ..) h.2.2.1,yb (al1 ..) h.2.2.2.1,yb (al1 ..) h.2.2.2.2.1,yb (al1 ..) h.2.2.2.2.2⟩
theorem ymU (o:Op')(b:Bool)(w:World)(h:Hid (okO o=b)) :
    Calls Tryz.prog 26 #[opV o] w fun e w'=>e=.returned (.bool b)/\Below w.heap.size w w':=by
 have hb1:=Lh (al1 w (.cells #[.int .i64 o.mode,.int .i64 o.ns,.int .i64 o.rs,.int .i64 o.mg,.int .i64 o.rd] 28));have h5:=ycj w o 28;have heq:=yto o (yfO o) b (Lh (by rw[yr8];exact h.out));have hgo:=ypx
 show Calls Tryz.prog 26 #[.agg #[.int .i64 o.mode,.int .i64 o.ns,.int .i64 o.rs,.int .i64 o.mg,.int .i64 o.rd]] w _
 go_enter func26,ntmps26;go_wp2_with fail
 generalize w.alloc (.cells #[.int .i64 o.mode,.int .i64 o.ns,.int .i64 o.rs,.int .i64 o.mg,.int .i64 o.rd] 28)=w1 at *;have hP0:Below w1.heap.size w1 w1/\at5 w1 w.heap.size o:=⟨Below.refl _ _,h5⟩
 go_region_held3 (fun w'=>Below w1.heap.size w1 w'/\at5 w' w.heap.size o)
  (repeat (first | assumption | (with_reducible refine ytp ?_) | (with_reducible refine ymT ?_)))
  (first
  | (go_at_call 64;refine(ypy _ _ _).mono ?_;rintro e w6 ⟨rfl,rfl⟩;have hP:True:=trivial))
 all_goals
  have hn5:=ymT (x:=.cells #[.int .i64 (yfO o).mode,.int .i64 (yfO o).ns,.int .i64 (yfO o).rs,.int .i64 (yfO o).mg,.int .i64 (yfO o).rd] 28) hP0;have hq5:=ycj w1 (yfO o) 28;obtain⟨hbn,n0,n1,n2,n3,n4⟩:=hn5;obtain⟨q0,q1,q2,q3,q4⟩:=hq5;unfold yfO at n0 n1 n2 n3 n4 q0 q1 q2 q3 q4 hbn heq;simp only at n0 n1 n2 n3 n4 q0 q1 q2 q3 q4 hbn heq;generalize w1.alloc (.cells #[.int .i64 (min (max o.mode 0) 4),.int .i64 (min (max o.ns 0) 1048576),.int .i64 (min (max o.rs 0) 1048576),.int .i64 (min (max o.mg 0) 1048576),.int .i64 (min (max o.rd 0) 100)] 28)=w2 at *;have HB2:=Lh (ya hbn hb1.out);have m0:w2.drew.cell? ⟨w.heap.size,0,none⟩=some (.int .i64 o.mode):=n0;have m1:w2.drew.cell? ⟨w.heap.size,1,none⟩=some (.int .i64 o.ns):=n1;have m2:w2.drew.cell? ⟨w.heap.size,2,none⟩=some (.int .i64 o.rs):=n2;have m3:w2.drew.cell? ⟨w.heap.size,3,none⟩=some (.int .i64 o.mg):=n3;have m4:w2.drew.cell? ⟨w.heap.size,4,none⟩=some (.int .i64 o.rd):=n4;have l0:w2.drew.cell? ⟨w1.heap.size,0,none⟩=some (.int .i64 (min (max o.mode 0) 4)):=q0;have l1:w2.drew.cell? ⟨w1.heap.size,1,none⟩=some (.int .i64 (min (max o.ns 0) 1048576)):=q1;have l2:w2.drew.cell? ⟨w1.heap.size,2,none⟩=some (.int .i64 (min (max o.rs 0) 1048576)):=q2;have l3:w2.drew.cell? ⟨w1.heap.size,3,none⟩=some (.int .i64 (min (max o.mg 0) 1048576)):=q3;have l4:w2.drew.cell? ⟨w1.heap.size,4,none⟩=some (.int .i64 (min (max o.rd 0) 100)):=q4;clear n0 n1 n2 n3 n4 q0 q1 q2 q3 q4 hbn hP0 h5;go_wp2;go_ret;exact⟨rfl,HB2.out.drew⟩
end Go.Proofs.YtgmidodmmlmmeaaGreatDoor.nor
