/-
  The landed builder once all statements are read (layer 12): its nodes with their attributes' values, its edges. No condition.
  What setNodes of the landed builder does (layer 12): the nodes get what their attributes say. Conditions: a builder in memory that knows at most 100000 nodes, accepted attributes; the library's variable MaxLen holds a number.
  A map from refs that a call made (layer 12), its elements as they are: what a look-up gives and what a store leaves. Condition: the texts' lengths.
  Names in what the landed code of layer 12 makes are short: of nodes, of refs, of ports. No function of the program is named here; no condition.
  What ends of the landed builder returns (layer 12): a map from refs to where they lead. Conditions: a builder in memory of at most 100000 finished nodes with short names and at most eight ports each.
-/
import Derived.Test.YtcdoicgbjoikkaaGreatDoorMng
namespace Go.Proofs.YtcdoicgbjoikkaaGreatDoor.nor
open Go.RowKit lex tre att
def nfC (y:gra.Nd × Value):List Value:=[.string (bb y.1.nm),.string (bb y.1.lb),.int .i64 y.1.w,.int .i64 y.1.h,.int .i64 y.1.cl,y.2]
def edC (y:gra.Ed):List Value:=[.int .i64 y.fr,.int .i64 y.to,.int .i64 y.fp,.int .i64 y.tp,.string (bb y.lb),.int .i64 y.wt,.int .i64 y.ln]
abbrev Frow (W:World)(B:Nat)(v:Value)(l:List (gra.Nd × Value)):Prop:=W.ownsRow B 45 6 v l.length (l.flatMap nfC)
abbrev Drow (W:World)(B:Nat)(v:Value)(l:List gra.Ed):Prop:=W.ownsRow B 60 7 v l.length (l.flatMap edC)
theorem flat_set {X:Type}(f:X→List Value)(c:Nat)(hc:∀ x,(f x).length=c)(y:X)(u:Value)(j:Nat)(hj:j < c):∀ (l:List X) (i:Nat) (h:i < l.length),f y=(f l[i]).set j u→(l.flatMap f).set (i*c+j) u=(l.set i y).flatMap f
 | x :: t,0,_,hy=>by
  rw [List.flatMap_cons,List.set_cons_zero,List.flatMap_cons,Nat.zero_mul,Nat.zero_add,List.set_append_left _ _ (by rw [hc];exact hj),hy];rfl
 | x :: t,i+1,h,hy=>by
  rw [List.flatMap_cons,List.set_cons_succ,List.flatMap_cons,List.set_append_right _ _ (by rw [hc,Nat.add_mul];omega),hc,show (i+1)*c+j - c=i*c+j by rw [Nat.add_mul];omega]
  rw [flat_set f c hc y u j hj t i (by simpa using h) (by simpa using hy)]
theorem posT_far {w w':World}{v:Value}{l:List att.Pt}(h:PosT w v l)(hf:∀ (k:Nat) (arr:Array Value) (fr:Nat × Nat),w.heap[k]?=some (.cells arr 129 fr)→w'.heap[k]?=w.heap[k]?):PosT w' v l:=by
 obtain ⟨⟨ao,cap,rfl,hc,hm,hA⟩,hT⟩:=h
 refine ⟨⟨ao,cap,rfl,hc,hm,fun hn=>?_⟩,fun g hg=>?_⟩
 ·obtain ⟨A,rfl,h2⟩:=hA hn
  obtain ⟨arr,fr,hk⟩:=hT A.block rfl
  have e:=hf _ _ _ hk
  refine ⟨A,rfl,fun i hi=>?_⟩
  obtain ⟨a1,a2⟩:=h2 i hi
  have eb:(A.add (i*2)).block=A.block:=by unfold Addr.add;split <;> rfl
  have e1:w'.heap[(A.add (i*2)).block]?=w.heap[(A.add (i*2)).block]?:=by rw [eb];exact e
  exact ⟨(World.cell?_of_block (a:=A.add (i*2)) e1).trans a1,(World.cell?_of_block (a:=⟨(A.add (i*2)).block,(A.add (i*2)).off+1,none⟩) e1).trans a2⟩
 ·obtain ⟨arr,fr,hk⟩:=hT g hg
  exact ⟨arr,fr,(hf _ _ _ hk).trans hk⟩
theorem posT_keep {w w':World}{v:Value}{l:List att.Pt}(h:PosT w v l)(hb:Below w.heap.size w w'):PosT w' v l:=posT_far h fun k _ _ hk=>hb.block k (heap_lt hk)
theorem posT_set {w:World}{v:Value}{l:List att.Pt}{b o:Nat}{t:TypeId}{arr:Array Value}{fr:Nat × Nat}(h:PosT w v l)(hb:w.heap[b]?=some (.cells arr t fr))(ht:t≠129)(u:Value):PosT (w.setCell ⟨b,o,none⟩ u) v l :=
 posT_far h fun k arr' fr' hk=>Below.heap_setCell _ _ _ _ fun e=>by
  subst e
  rw [hb] at hk
  cases hk
  exact ht rfl
structure BdF (w0 W:World)(b:Nat)(nm:Nm)(d:Bool)(s:Bs)(L:List (gra.Nd × Value))(ev:Value)(es:List gra.Ed)(x:BdV):Prop where
 low:w0.heap.size≤b
 old:Below w0.heap.size w0 W
 box:bdb W b nm d x.nv ev x.cv x.av x.mb x.kb x.hv
 fr:Frow W w0.heap.size x.nv L
 er:Drow W w0.heap.size ev es
 cr:Crow W w0.heap.size x.cv s.cs
 ar:Arow W w0.heap.size x.av x.avs
 hr:Hrow W w0.heap.size x.hv x.hvs
 al:x.avs.length=s.ats.length
 ap:∀ i (h:i < x.avs.length) (h':i < s.ats.length),PrsT W x.avs[i] s.ats[i]
 hl:x.hvs.length=s.ch.length
 hp:∀ i (h:i < x.hvs.length) (h':i < s.ch.length),Prs w0 x.hvs[i].1 s.ch[i].1∧PrsT W x.hvs[i].2 s.ch[i].2
 pv:∀ y∈L,PosT W y.2 y.1.ps
def nd0 (c:Cl):gra.Nd × Value:=(⟨c.1,[],0,0,c.2,[]⟩,.slice none 0 0)
theorem nd0_flat (l:List Cl):(l.map nd0).flatMap nfC=l.flatMap ndC:=by
 induction l with
 | nil=>rfl
 | cons c t ih=>rw [List.map_cons,List.flatMap_cons,List.flatMap_cons,ih];rfl
section
variable {w0 W W' Wd w1:World} {b:Nat} {nm:Nm} {d:Bool} {s:Bs} {L:List (gra.Nd × Value)} {ev:Value} {es:List gra.Ed} {x:BdV}
theorem BdG.fin (h:BdG w0 W b nm d s.g x):BdF w0 W b nm d s (s.ns.map nd0) (.slice none 0 0) [] x :=
 ⟨h.low,h.old,h.box,by
  unfold Frow
  rw [nd0_flat,List.length_map];exact h.nr,World.ownsRow_nil ..,h.cr,h.ar,h.hr,h.al,h.ap,h.hl,h.hp,fun y hy=>by
   obtain ⟨c,_,rfl⟩:=List.mem_map.1 hy
   exact PosT.nil _⟩
theorem BdF.lt (h:BdF w0 W b nm d s L ev es x):b < W.heap.size:=heap_lt h.box
theorem BdF.base (h:BdF w0 W b nm d s L ev es x):w0.heap.size≤W.heap.size:=h.old.size
theorem BdF.below (h:BdF w0 W b nm d s L ev es x)(hb:Below W.heap.size W W'):BdF w0 W' b nm d s L ev es x :=
 ⟨h.low,h.old.trans (hb.mono h.base),(by unfold bdb att.blk;rw [hb.block b (heap_lt h.box)];exact h.box),row_below h.fr hb,row_below h.er hb,row_below h.cr hb,row_below h.ar hb,row_below h.hr hb,h.al,fun i h1 h2=>(h.ap i h1 h2).keep hb,h.hl,fun i h1 h2=>⟨(h.hp i h1 h2).1,(h.hp i h1 h2).2.keep hb⟩,fun y hy=>posT_keep (h.pv y hy) hb⟩
theorem BdF.at (h:BdF w0 W b nm d s L ev es x){k:Nat}(hk:k < L.length):∃ g cap,x.nv=.slice (some ⟨g,0,none⟩) L.length cap∧(∀ j u,(nfC L[k])[j]?=some u→W.cell? ⟨g,k*6+j,none⟩=some u)∧(∀ o,W.frozen? ⟨g,o,none⟩=false)∧∃ arr,blk W g 45 arr:=by
 obtain ⟨g,cap,arr,e,_,hg,_,_,h3⟩:=own_blk h.fr (by omega)
 refine ⟨g,cap,e,fun j u hu=>?_,fun o=>blk_open hg o,arr,hg⟩
 have hj:j < 6:=by
  rcases Nat.lt_or_ge j 6 with q | q
  ·exact q
  ·rw [List.getElem?_eq_none (by simpa [nfC] using q)] at hu;cases hu
 rw [blk_cell hg,h3 _ (by have:=Nat.mul_le_mul_right 6 (show k+1≤L.length from hk);rw [Nat.add_mul] at this;omega),flat_get nfC 6 (fun _=>rfl) L k j hk hj]
 exact hu
theorem BdF.setN {g cap k j:Nat}{u:Value}{y:gra.Nd × Value}(h:BdF w0 W b nm d s L ev es x)(hv:x.nv=.slice (some ⟨g,0,none⟩) L.length cap)(hk:k < L.length)(hj:j < 6)(hy:nfC y=(nfC L[k]).set j u)(hp:PosT W y.2 y.1.ps):BdF w0 (W.setCell ⟨g,k*6+j,none⟩ u) b nm d s (L.set k y) ev es x:=by
 have hfr:=h.fr
 rw [hv] at hfr
 obtain ⟨ho,-⟩:=World.ownsRow.stored hfr (k*6+j) u
 obtain ⟨g',cap',cur,e,h1,h2,-⟩:=hfr.2.resolve_left (fun q=>by cases q.1)
 cases e
 have hne:b≠g:=fun e=>by
  have q:=h.box
  unfold bdb att.blk at q
  rw [e,h2] at q
  cases q
 have far:∀ {B c n:Nat} {t:TypeId} {u':Value} {xs:List Value},W.ownsRow B t c u' n xs→t≠45→(W.setCell ⟨g,k*6+j,none⟩ u).ownsRow B t c u' n xs:=fun {B c n t u' xs} hr hu=>row_far hr h2 hu fun q _ hq=>Below.heap_setCell _ _ _ _ hq
 refine ⟨h.low,h.old.setCell h1 _,?_,?_,far h.er (by decide),far h.cr (by decide),far h.ar (by decide),far h.hr (by decide),h.al,fun i q1 q2=>prsT_set (h.ap i q1 q2) h2 (by decide) _,h.hl,fun i q1 q2=>⟨(h.hp i q1 q2).1,prsT_set (h.hp i q1 q2).2 h2 (by decide) _⟩,fun z hz=>?_⟩
 ·unfold bdb att.blk
  rw [Below.heap_setCell _ _ _ _ hne];exact h.box
 ·unfold Frow
  rw [List.length_set,hv,← flat_set nfC 6 (fun _=>rfl) y u j hj L k hk hy]
  exact ho
 ·rcases List.mem_or_eq_of_mem_set hz with q | q
  ·exact posT_set (h.pv z q) h2 (by decide) _
  ·subst q;exact posT_set hp h2 (by decide) _
end
theorem ports_short {l:List Pr}(h:Ga 1 l):(getL l wPorts).1.length≤32:=by
 by_cases hp:(getL l wPorts).2=true
 ·have hs:∀ {l:List Pr},(∀ a∈l,checkL 1 a=0)→(getL l wPorts).1.length≤32:=fun {l}=>by
    induction l with
    | nil=>intro _;exact Nat.zero_le _
    | cons a t ih =>
     intro hc
     rw [getL_cons]
     split
     ·exact ih fun q hq=>hc q (List.mem_cons_of_mem _ hq)
     ·split
      ·rename_i e
       have hk:=hc a (List.mem_cons_self ..)
       unfold checkL at hk
       rw [if_neg (by decide),e] at hk
       rw [if_neg (by decide),if_neg (fun q=>absurd q.1 (by decide))] at hk
       split at hk
       ·rename_i ho
        unfold okV at ho
        rw [if_neg (by decide),if_neg (by decide),if_pos (by decide)] at ho
        simp only [Bool.and_eq_true,decide_eq_true_eq] at ho
        exact ho.2
       ·exact absurd hk (by decide)
      ·exact Nat.zero_le _
  exact hs h.1
 ·rw [getL_none (by simpa using hp)];exact Nat.zero_le _
def Half (s:Bs)(k:Nat)(L:List (gra.Nd × Value)):Prop:=L.length=s.ns.length∧(∀ j (h:j < L.length) (h1:j < s.ns.length) (h2:j < s.ats.length),j < k→L[j].1=finN s.ns[j] s.ats[j])∧∀ j (h:j < L.length) (h1:j < s.ns.length),k≤j→L[j]=nd0 s.ns[j]
theorem Half.step {s:Bs}{k:Nat}{L:List (gra.Nd × Value)}(h:Half s k L){y:gra.Nd × Value}(hk1:k < s.ns.length)(hk2:k < s.ats.length)(hy:y.1=finN s.ns[k] s.ats[k]):Half s (k+1) (L.set k y):=by
 obtain ⟨h1,h2,h3⟩:=h
 refine ⟨by rw [List.length_set];exact h1,fun j q1 q2 q3 q4=>?_,fun j q1 q2 q3=>?_⟩
 ·rw [List.length_set] at q1
  rw [List.getElem_set]
  by_cases e:k=j
  ·subst e;rw [if_pos rfl];exact hy
  ·rw [if_neg e];exact h2 j q1 q2 q3 (by omega)
 ·rw [List.length_set] at q1
  rw [List.getElem_set,if_neg (by omega)];exact h3 j q1 q2 (by omega)
theorem Half.done {s:Bs}{L:List (gra.Nd × Value)}(h:Half s s.ns.length L)(hal:s.ns.length=s.ats.length):L.map (·.1)=ndC' s:=by
 obtain ⟨h1,h2,-⟩:=h
 refine List.ext_getElem (by unfold ndC';rw [List.length_map,List.length_zipWith];omega) fun j q1 q2=>?_
 rw [List.length_map] at q1
 have e:(ndC' s)[j]=finN (s.ns[j]'(by omega)) (s.ats[j]'(by omega)):=by unfold ndC';exact List.getElem_zipWith ..
 rw [List.getElem_map,e]
 exact h2 j q1 (by omega) (by omega) (by omega)
section
variable {w0 W:World} {b:Nat} {nm:Nm} {d:Bool} {s:Bs} {L:List (gra.Nd × Value)} {ev:Value} {es:List gra.Ed} {x:BdV} {g cap k:Nat} {P:Addr} {y y':gra.Nd × Value}
theorem BdF.put (h:BdF w0 W b nm d s (L.set k y) ev es x)(hv:x.nv=.slice (some ⟨g,0,none⟩) L.length cap)(hP:P=⟨g,k*6,none⟩)(hk:k < L.length)(j:Nat)(u:Value)(hj:j < 6)(hy:nfC y'=(nfC y).set j u)(hp:PosT W y'.2 y'.1.ps):BdF w0 (W.setCell ⟨P.block,P.off+j,none⟩ u) b nm d s (L.set k y') ev es x:=by
 subst hP
 have:=h.setN (k:=k) (j:=j) (u:=u) (y:=y') (by rw [List.length_set];exact hv) (by rw [List.length_set];exact hk) hj (by rw [List.getElem_set_self];exact hy) hp
 rw [List.set_set] at this
 exact this
theorem BdF.prs_set {v:Value}{l:List Pr}{o:Nat}{u:Value}(h:BdF w0 W b nm d s (L.set k y) ev es x)(hP:P=⟨g,k*6,none⟩)(hp:PrsT W v l)(hv:x.nv=.slice (some ⟨g,0,none⟩) L.length cap)(hk:k < L.length):PrsT (W.setCell ⟨P.block,o,none⟩ u) v l:=by
 subst hP
 obtain ⟨g',cap',e,-,-,arr,hg⟩:=h.at (k:=k) (by rw [List.length_set];exact hk)
 rw [List.length_set,hv] at e
 cases e
 exact prsT_set hp hg (by decide) u
theorem BdF.see (h:BdF w0 W b nm d s (L.set k y) ev es x)(hv:x.nv=.slice (some ⟨g,0,none⟩) L.length cap)(hP:P=⟨g,k*6,none⟩)(hk:k < L.length):W.cell? P=some (.string (bb y.1.nm))∧W.cell? ⟨P.block,P.off+1,none⟩=some (.string (bb y.1.lb))∧W.cell? ⟨P.block,P.off+2,none⟩=some (.int .i64 y.1.w)∧W.cell? ⟨P.block,P.off+3,none⟩=some (.int .i64 y.1.h)∧W.cell? ⟨P.block,P.off+5,none⟩=some y.2 ∧
    W.frozen? ⟨P.block,P.off+1,none⟩=false∧W.frozen? ⟨P.block,P.off+2,none⟩=false∧W.frozen? ⟨P.block,P.off+3,none⟩=false∧W.frozen? ⟨P.block,P.off+5,none⟩=false:=by
 subst hP
 obtain ⟨g',cap',e,hat,hf,-⟩:=h.at (k:=k) (by rw [List.length_set];exact hk)
 rw [List.length_set,hv] at e
 cases e
 rw [List.getElem_set_self] at hat
 exact ⟨by have:=hat 0 _ rfl;rwa [Nat.add_zero] at this,hat 1 _ rfl,hat 2 _ rfl,hat 3 _ rfl,hat 5 _ rfl,hf _,hf _,hf _,hf _⟩
end
set_option maxRecDepth 100000 in
set_option maxHeartbeats 2000000 in
theorem setnodes_of (w0:World)(b:Nat)(nm:Nm)(d:Bool)(s:Bs)(x:BdV)(w:World)(hM:Hid (Mx w0))(hS:Hid (BdF w0 w b nm d s (s.ns.map nd0) (.slice none 0 0) [] x))(hl:s.ns.length≤100000)(hal:Hid (s.ns.length=s.ats.length))(hga:Hid (GaS s)) :
    Calls Tryz.prog 25 #[.pointer (some ⟨b,0,none⟩)] w fun e w'=>e=.returned (.tuple #[])∧∃ L,BdF w0 w' b nm d s L (.slice none 0 0) [] x∧L.map (·.1)=ndC' s:=by
 obtain ⟨nv,cv,av,hv,mb,kb,avs,hvs⟩:=x
 have havl:avs.length=s.ats.length:=hS.out.al
 have HAVL:=Lh havl
 have hla:avs.length≤100000:=by have:=hal.out;omega
 obtain ⟨ao,ac,hav,hrow⟩:=row_vs hS.out.ar
 simp only at hav
 subst hav
 have c5:w.cell? ⟨b,5,none⟩=some (.slice ao avs.length ac):=hS.out.box.read.2.2.1
 have HROW:=Lh hrow
 clear hrow havl
 go_enter Tryz.func25,Tryz.ntmps25
 go_wp2_with fail
 clear c5
 go_loopw [14] (fun iv wr=>∃ (k:Nat) (L:List (gra.Nd × Value)),iv=.int .i64 k∧k≤avs.length∧BdF w0 wr b nm d s L (.slice none 0 0) [] ⟨nv,cv,.slice ao avs.length ac,hv,mb,kb,avs,hvs⟩∧Half s k L) (fun iv _=>avs.length - (intOf iv).toNat)
 case atStart=>exact ⟨0,s.ns.map nd0,rfl,Nat.zero_le _,hS.out,by rw [List.length_map],fun j _ _ _ q=>absurd q (by omega),fun j q1 q2 _=>by rw [List.getElem_map]⟩
 case round =>
  obtain ⟨k,L,rfl,hk,hsi,hhf⟩:=hrel
  rename World=>wr
  have HSI:=Lh hsi
  have HHF:=Lh hhf
  clear hsi hhf
  by_cases hlt:k < avs.length
  case neg =>
   have hke:k=s.ns.length:=by have h1:=HAVL.out;have h2:=hal.out;omega
   subst hke
   go_wp2
   refine end0 rfl rfl ?_
   exact ⟨rfl,L,HSI.out,HHF.out.done hal.out⟩
  have hk1:k < s.ns.length:=by have h1:=HAVL.out;have h2:=hal.out;omega
  have hk2:k < s.ats.length:=by have h1:=HAVL.out;omega
  have hkL:k < L.length:=by rw [HHF.out.1];exact hk1
  obtain ⟨g,gc,hnv,-,-,-⟩:=HSI.out.at hkL
  simp only at hnv
  subst hnv
  have HLL:=HHF.out.1
  have hLk:=HHF.out.2.2 k hkL hk1 (Nat.le_refl _)
  obtain ⟨gr,grc,hav2,hrw⟩:=row_vs HSI.out.ar
  simp only at hav2
  cases hav2
  obtain ⟨Ar,eA,ha0⟩:=hrw k hlt
  cases eA
  have hpk:=HSI.out.ap k hlt hk2
  have hgk:=hga.out.1 _ (List.getElem_mem hk2)
  have HFIN:Hid (∀ y:gra.Nd × Value,y.1=finN s.ns[k] s.ats[k]→Half s (k+1) (L.set k y)):=Lh (fun y hy=>HHF.out.step hk1 hk2 hy)
  obtain ⟨u,hu⟩:∃ u,avs[k]=u:=⟨_,rfl⟩
  obtain ⟨l,hlq⟩:∃ l,s.ats[k]=l:=⟨_,rfl⟩
  obtain ⟨c,hcq⟩:∃ c,s.ns[k]=c:=⟨_,rfl⟩
  rw [hu] at ha0
  simp only at hpk
  rw [hu,hlq] at hpk
  rw [hlq] at hgk
  rw [hlq,hcq] at HFIN
  rw [hcq] at hLk
  obtain ⟨uo,uc,rfl,_,_,_⟩:=id hpk.prs
  have hll2:l.length≤1000:=Nat.le_trans hgk.len (by decide)
  have HGK:=Lh hgk
  have HS0:Hid (BdF w0 wr b nm d s (L.set k (⟨c.1,[],0,0,c.2,[]⟩,.slice none 0 0)) (.slice none 0 0) [] ⟨.slice (some ⟨g,0,none⟩) L.length gc,cv,.slice (some Ar) avs.length ac,hv,mb,kb,avs,hvs⟩):=Lh (by show BdF w0 wr b nm d s (L.set k (nd0 c)) _ _ _;rw [← hLk,List.set_getElem_self];exact HSI.out)
  have c2:=HSI.out.box.read.1
  simp only at c2
  obtain ⟨P,hP⟩:∃ P:Addr,(⟨g,0,none⟩:Addr).add (k*6)=P:=⟨_,rfl⟩
  have hPe:P=⟨g,k*6,none⟩:=by rw [← hP,add_at,Nat.zero_add]
  have HPE:=Lh hPe
  obtain ⟨p0,p1,p2,p3,p5,f1,f2,f3,f5⟩:=HS0.out.see rfl hPe hkL
  dsimp only at p0 p1 p2 p3 p5
  have HS1:=Lh (HS0.out.put rfl hPe hkL 1 (.string (bb c.1)) (y':=(⟨c.1,c.1,0,0,c.2,[]⟩,.slice none 0 0)) (by decide) rfl (PosT.nil _))
  obtain ⟨G,hG⟩:∃ G:Addr,(⟨g,0,none⟩:Addr)=G:=⟨_,rfl⟩
  rw [hG] at c2 hP
  have HPK:=Lh hpk
  obtain ⟨gl,hgl⟩:∃ q,getL l wLabel=q:=⟨_,rfl⟩
  obtain ⟨gl,gb⟩:=gl
  obtain ⟨gp,hgp⟩:∃ q,getL l wPorts=q:=⟨_,rfl⟩
  obtain ⟨gp,gpb⟩:=gp
  obtain ⟨nw,hnw⟩:∃ q,numL 1 l wWidth=q:=⟨_,rfl⟩
  obtain ⟨nh,hnh⟩:∃ q,numL 1 l wHeight=q:=⟨_,rfl⟩
  obtain ⟨pl,hpl⟩:∃ q,portsL gp=q:=⟨_,rfl⟩
  obtain ⟨pl,pe⟩:=pl
  have HGL:Hid (getL l (⟨#[108,97,98,101,108]⟩:ByteArray).data.toList=(gl,gb)):=Lh hgl
  have HGP:Hid (getL l (⟨#[112,111,114,116,115]⟩:ByteArray).data.toList=(gp,gpb)):=Lh hgp
  have HNW:Hid (numL 1 l (⟨#[119,105,100,116,104]⟩:ByteArray).data.toList=nw):=Lh hnw
  have HNH:Hid (numL 1 l (⟨#[104,101,105,103,104,116]⟩:ByteArray).data.toList=nh):=Lh hnh
  have HPL:Hid (portsL (bb gp).data.toList=(pl,pe)):=Lh hpl
  have hgps:(bb gp).size≤1000:=by
   have:=ports_short hgk
   rw [hgp] at this
   rw [bb_size];exact Nat.le_trans this (by decide)
  have HFN:Hid (finN c l=⟨c.1,if gb then gl else c.1,nw,nh,c.2,pl⟩):=Lh (by
   have e5:(finN c l).ps=pl:=by rw [fin_ps,hgp];show (portsL gp).1=pl;rw [hpl]
   have e2:(finN c l).lb=if gb then gl else c.1:=by unfold finN;rw [hgl]
   have e3:(finN c l).w=nw:=hnw
   have e4:(finN c l).h=nh:=hnh
   rw [← e5,← e2,← e3,← e4];rfl)
  have i0:(0:Int)≤(k:Int):=by omega
  have i1:(k:Int) < (avs.length:Int):=by omega
  have i2:(k:Int) < (L.length:Int):=by omega
  have HPK1:Hid (PrsT (wr.setCell ⟨P.block,P.off+1,none⟩ (.string (bb c.1))) (.slice uo l.length uc) l):=Lh (HS0.out.prs_set HPE.out hpk rfl hkL)
  clear hLk hpk hgk hu hlq hcq hG hPe hgl hgp hnw hnh hpl hrw HLL HSI HHF hk1 hk2
  go_wp2_with fail
  generalize wr.setCell ⟨P.block,P.off+1,none⟩ (.string (bb c.1))=w1 at *
  clear p0 p1 p2 p3 p5 f1 f2 f3 f5 c2 ha0 HS0 hP
  refine (get_of _ l ⟨#[108,97,98,101,108]⟩ gl gb w1 (Lh HPK1.out.prs) hll2 HGL).mono ?_
  rintro e w2 ⟨rfl,hb2⟩
  have hs2:=HS1.out.below hb2
  have hpk2:=HPK1.out.keep hb2
  clear hb2 HS1 HPK1 HPK
  cases gb
  case true =>
   obtain ⟨p0,p1,p2,p3,p5,f1,f2,f3,f5⟩:=hs2.see rfl HPE.out hkL
   dsimp only at p0 p1 p2 p3 p5
   have HS3:=Lh (hs2.put rfl HPE.out hkL 1 (.string (bb gl)) (y':=(⟨c.1,gl,0,0,c.2,[]⟩,.slice none 0 0)) (by decide) rfl (PosT.nil _))
   have HPK3:Hid (PrsT (w2.setCell ⟨P.block,P.off+1,none⟩ (.string (bb gl))) (.slice uo l.length uc) l):=Lh (hs2.prs_set HPE.out hpk2 rfl hkL)
   clear hs2 hpk2
   go_wp2_with fail
   generalize w2.setCell ⟨P.block,P.off+1,none⟩ (.string (bb gl))=w3 at *
   clear p0 p1 p2 p3 p5 f1 f2 f3 f5
   refine (num10_of 1 _ l ⟨#[119,105,100,116,104]⟩ nw w3 (Lh HPK3.out.prs) hll2 (by decide) HNW).mono ?_
   rintro e w4 ⟨rfl,hb4⟩
   have hs4:=HS3.out.below hb4
   have hpk4:=HPK3.out.keep hb4
   obtain ⟨p0,p1,p2,p3,p5,f1,f2,f3,f5⟩:=hs4.see rfl HPE.out hkL
   dsimp only at p0 p1 p2 p3 p5
   have HS5:=Lh (hs4.put rfl HPE.out hkL 2 (.int .i64 nw) (y':=(⟨c.1,gl,nw,0,c.2,[]⟩,.slice none 0 0)) (by decide) rfl (PosT.nil _))
   have HPK5:Hid (PrsT (w4.setCell ⟨P.block,P.off+2,none⟩ (.int .i64 nw)) (.slice uo l.length uc) l):=Lh (hs4.prs_set HPE.out hpk4 rfl hkL)
   clear hb4 hs4 hpk4 HS3 HPK3
   go_wp2_with fail
   generalize w4.setCell ⟨P.block,P.off+2,none⟩ (.int .i64 nw)=w5 at *
   clear p0 p1 p2 p3 p5 f1 f2 f3 f5
   refine (num10_of 1 _ l ⟨#[104,101,105,103,104,116]⟩ nh w5 (Lh HPK5.out.prs) hll2 (by decide) HNH).mono ?_
   rintro e w6 ⟨rfl,hb6⟩
   have hs6:=HS5.out.below hb6
   have hpk6:=HPK5.out.keep hb6
   obtain ⟨p0,p1,p2,p3,p5,f1,f2,f3,f5⟩:=hs6.see rfl HPE.out hkL
   dsimp only at p0 p1 p2 p3 p5
   have HS7:=Lh (hs6.put rfl HPE.out hkL 3 (.int .i64 nh) (y':=(⟨c.1,gl,nw,nh,c.2,[]⟩,.slice none 0 0)) (by decide) rfl (PosT.nil _))
   have HPK7:Hid (PrsT (w6.setCell ⟨P.block,P.off+3,none⟩ (.int .i64 nh)) (.slice uo l.length uc) l):=Lh (hs6.prs_set HPE.out hpk6 rfl hkL)
   clear hb6 hs6 hpk6 HS5 HPK5
   go_wp2_with fail
   generalize w6.setCell ⟨P.block,P.off+3,none⟩ (.int .i64 nh)=w7 at *
   clear p0 p1 p2 p3 p5 f1 f2 f3 f5
   refine (get_of _ l ⟨#[112,111,114,116,115]⟩ gp gpb w7 (Lh HPK7.out.prs) hll2 HGP).mono ?_
   rintro e w8 ⟨rfl,hb8⟩
   have HS8:=Lh (HS7.out.below hb8)
   have hM8:Hid (Mx w8):=mxh hM HS8.out.old
   clear hb8 HS7 HPK7
   go_wp2_with fail
   refine (portsT_of (bb gp) pl pe w8 hM8 hgps HPL).mono ?_
   rintro e w9 ⟨pv,rfl,hpv,hb9⟩
   obtain ⟨vo,vc,rfl,_,_,_⟩:=id hpv.pos
   have hs9:=HS8.out.below hb9
   obtain ⟨p0,p1,p2,p3,p5,f1,f2,f3,f5⟩:=hs9.see rfl HPE.out hkL
   dsimp only at p0 p1 p2 p3 p5
   have HS10:=Lh (hs9.put rfl HPE.out hkL 5 (.slice vo pl.length vc) (y':=(⟨c.1,gl,nw,nh,c.2,pl⟩,.slice vo pl.length vc)) (by decide) rfl hpv)
   clear hb9 hs9 hpv HS8
   go_wp2_with fail
   go_roundw
   case rel=>exact ⟨k+1,_,by go_num,by omega,by simpa only [List.length_set] using HS10.out,HFIN.out _ (by rw [HFN.out];rfl)⟩
   case measure=>simp [intOf];omega
  case false =>
   have HS3:=Lh hs2
   have HPK3:=Lh hpk2
   clear hs2 hpk2
   go_wp2_with fail
   obtain ⟨w3,hw3⟩:∃ w3,w3=w2:=⟨_,rfl⟩
   subst hw3
   refine (num10_of 1 _ l ⟨#[119,105,100,116,104]⟩ nw w3 (Lh HPK3.out.prs) hll2 (by decide) HNW).mono ?_
   rintro e w4 ⟨rfl,hb4⟩
   have hs4:=HS3.out.below hb4
   have hpk4:=HPK3.out.keep hb4
   obtain ⟨p0,p1,p2,p3,p5,f1,f2,f3,f5⟩:=hs4.see rfl HPE.out hkL
   dsimp only at p0 p1 p2 p3 p5
   have HS5:=Lh (hs4.put rfl HPE.out hkL 2 (.int .i64 nw) (y':=(⟨c.1,c.1,nw,0,c.2,[]⟩,.slice none 0 0)) (by decide) rfl (PosT.nil _))
   have HPK5:Hid (PrsT (w4.setCell ⟨P.block,P.off+2,none⟩ (.int .i64 nw)) (.slice uo l.length uc) l):=Lh (hs4.prs_set HPE.out hpk4 rfl hkL)
   clear hb4 hs4 hpk4 HS3 HPK3
   go_wp2_with fail
   generalize w4.setCell ⟨P.block,P.off+2,none⟩ (.int .i64 nw)=w5 at *
   clear p0 p1 p2 p3 p5 f1 f2 f3 f5
   refine (num10_of 1 _ l ⟨#[104,101,105,103,104,116]⟩ nh w5 (Lh HPK5.out.prs) hll2 (by decide) HNH).mono ?_
   rintro e w6 ⟨rfl,hb6⟩
   have hs6:=HS5.out.below hb6
   have hpk6:=HPK5.out.keep hb6
   obtain ⟨p0,p1,p2,p3,p5,f1,f2,f3,f5⟩:=hs6.see rfl HPE.out hkL
   dsimp only at p0 p1 p2 p3 p5
   have HS7:=Lh (hs6.put rfl HPE.out hkL 3 (.int .i64 nh) (y':=(⟨c.1,c.1,nw,nh,c.2,[]⟩,.slice none 0 0)) (by decide) rfl (PosT.nil _))
   have HPK7:Hid (PrsT (w6.setCell ⟨P.block,P.off+3,none⟩ (.int .i64 nh)) (.slice uo l.length uc) l):=Lh (hs6.prs_set HPE.out hpk6 rfl hkL)
   clear hb6 hs6 hpk6 HS5 HPK5
   go_wp2_with fail
   generalize w6.setCell ⟨P.block,P.off+3,none⟩ (.int .i64 nh)=w7 at *
   clear p0 p1 p2 p3 p5 f1 f2 f3 f5
   refine (get_of _ l ⟨#[112,111,114,116,115]⟩ gp gpb w7 (Lh HPK7.out.prs) hll2 HGP).mono ?_
   rintro e w8 ⟨rfl,hb8⟩
   have HS8:=Lh (HS7.out.below hb8)
   have hM8:Hid (Mx w8):=mxh hM HS8.out.old
   clear hb8 HS7 HPK7
   go_wp2_with fail
   refine (portsT_of (bb gp) pl pe w8 hM8 hgps HPL).mono ?_
   rintro e w9 ⟨pv,rfl,hpv,hb9⟩
   obtain ⟨vo,vc,rfl,_,_,_⟩:=id hpv.pos
   have hs9:=HS8.out.below hb9
   obtain ⟨p0,p1,p2,p3,p5,f1,f2,f3,f5⟩:=hs9.see rfl HPE.out hkL
   dsimp only at p0 p1 p2 p3 p5
   have HS10:=Lh (hs9.put rfl HPE.out hkL 5 (.slice vo pl.length vc) (y':=(⟨c.1,c.1,nw,nh,c.2,pl⟩,.slice vo pl.length vc)) (by decide) rfl hpv)
   clear hb9 hs9 hpv HS8
   go_wp2_with fail
   go_roundw
   case rel=>exact ⟨k+1,_,by go_num,by omega,by simpa only [List.length_set] using HS10.out,HFIN.out _ (by rw [HFN.out];rfl)⟩
   case measure=>simp [intOf];omega
end Go.Proofs.YtcdoicgbjoikkaaGreatDoor.nor
namespace Go.Proofs.YtcdoicgbjoikkaaGreatDoor.nor
open Go.RowKit Go.ChangeMaps Go.MapKept lex tre att
def kb (r:Pr):List UInt8:=keyBytes [.string r.1,.string r.2]
def refV (r:Pr):Value:=.agg #[.string (bb r.1),.string (bb r.2)]
theorem ref_cells:Tryz.prog.cellsOf 58=2:=by kernel_rfl
theorem str_cells:Tryz.prog.cellsOf 9=1:=by kernel_rfl
theorem ref_keyt:Tryz.prog.keyType 58=true:=by kernel_rfl
theorem ref_row:(58:TypeId) < Tryz.prog.types.size:=of_decide_eq_true (by kernel_rfl)
theorem ref_types:∃ n,Tryz.prog.types.size=n+1:=Nat.exists_eq_succ_of_ne_zero (Nat.ne_of_gt (Nat.lt_of_le_of_lt (Nat.zero_le _) ref_row))
theorem ref_law:WideMaps.KeyLaw Tryz.prog 58:=deep_law_laid laidOut (m:=2) (by omega) ref_row (by kernel_rfl) (by rw [Tryz.underlying58])
theorem ref_keyed:Maps.Keyed Tryz.prog 58:=Maps.Keyed.of_law ref_law
theorem ref_key (r:Pr)(h1:r.1.length≤maxLen)(h2:r.2.length≤maxLen):keyOf Tryz.prog 58 (refV r)=some (.string (kb r)):=by
 have hf:(refV r).formed Tryz.prog 58=true:=by simp [refV,Value.formed,Tryz.underlying58,ref_cells]
 obtain ⟨m,hm⟩:=ref_types
 have hs:∀ (x:List UInt8),x.length≤maxLen→Tryz.prog.keyLits (m+1) 9 [.string (bb x)]=some [.string x]:=fun x hx=>by
  simp [Program.keyLits,Tryz.underlying9,ByteArray.size,hx]
 have hk:Tryz.prog.keyLits (Tryz.prog.types.size+1) 58 (refV r).cells.toList=some [.string r.1,.string r.2]:=by
  rw [hm]
  unfold Program.keyLits
  simp only [Tryz.underlying58,refV,Value.cells,ref_cells]
  simp [str_cells,hs _ h1,hs _ h2]
 unfold keyOf
 rw [Tryz.underlying58]
 simp only [ref_keyt,hf,hk,Bool.and_self,if_true,Option.map_some]
 rfl
theorem kb_inj {r q:Pr}(h1:r.1.length≤maxLen∧r.2.length≤maxLen)(h2:q.1.length≤maxLen∧q.2.length≤maxLen)(h:kb r=kb q):r=q:=by
 have a:=ref_key r h1.1 h1.2
 have b:=ref_key q h2.1 h2.2
 rw [← h] at b
 have:=ref_keyed.inj a b
 unfold refV at this
 simp only [Value.agg.injEq,Array.mk.injEq,List.cons.injEq,Value.string.injEq,and_true] at this
 obtain ⟨e1,e2⟩:=this
 have f:∀ {x y:List UInt8},bb x=bb y→x=y:=fun {x y} e=>by
  have:(bb x).data.toList=(bb y).data.toList:=by rw [e]
  exact this
 exact Prod.ext (f e1) (f e2)
def Sm (r:Pr):Prop:=r.1.length≤maxLen∧r.2.length≤maxLen
def rAt (z:Value)(W:World)(b n:Nat)(D:DataW Value)(F:Pr→Value × Bool):Prop :=
 W.ownsMap Tryz.prog 58 heldR b n D∧Maps.IsMap D∧∀ x:Pr,Sm x→D.atKey (.string (kb x)) (.held z)=.held (F x).1∧Maps.has D (.string (kb x))=(F x).2
theorem rAt_made (z:Value)(w:World):rAt z (w.alloc (.map #[] 0)) w.heap.size 0 (.map []) (fun _=>(z,false)) :=
 ⟨World.ownsMap_made w _ _ _,Maps.isMap_empty,fun _ _=>⟨rfl,rfl⟩⟩
theorem rAt.kept {z:Value}{w w':World}{b n:Nat}{D:DataW Value}{F:Pr→Value × Bool}{row:Option Nat}(h:rAt z w b n D F)(hg:w.grownBy w' row)(hne:some b≠row):rAt z w' b n D F:=⟨h.1.kept hg hne,h.2⟩
theorem rAt.keep {z:Value}{w w':World}{b n:Nat}{D:DataW Value}{F:Pr→Value × Bool}(h:rAt z w b n D F)(hb:Below w.heap.size w w'):rAt z w' b n D F :=
 h.kept (row:=none) ⟨hb.os,hb.tape,hb.output,hb.size,fun k hk _=>hb.block k hk⟩ (by simp)
theorem rAt.lt {z:Value}{w:World}{b n:Nat}{D:DataW Value}{F:Pr→Value × Bool}(h:rAt z w b n D F):b < w.heap.size:=h.1.lt
theorem rAt.lookOk {T e:TypeId}{z:Value}(ht:Tryz.prog.underlying T=some (.map 58 e))(hz:∀ w,(zeroValue e).run Tryz.prog w=.ok z w){w:World}{b n:Nat}{D:DataW Value}{F:Pr→Value × Bool}(h:rAt z w b n D F)(r:Pr)(hs:Sm r) :
    (Instr.lookup T (.map (some b)) (refV r) true).run Tryz.prog w=.ok (.tuple #[(F r).1,.bool (F r).2]) w:=by
 obtain ⟨v,ps,hrun,hv⟩:=h.1.look_ok ref_keyed ht (hz w) (R:=heldR) (zd:=.held z) (zp:=[]) rfl (ref_key r hs.1 hs.2)
 rw [(h.2.2 _ hs).1] at hv
 rw [(h.2.2 _ hs).2] at hrun
 unfold heldR at hv
 cases hv
 exact hrun
theorem rAt.put {T e:TypeId}{z:Value}(ht:Tryz.prog.underlying T=some (.map 58 e)){w:World}{b n:Nat}{D:DataW Value}{F:Pr→Value × Bool}(h:rAt z w b n D F)(r:Pr)(v:Value)(hs:Sm r)(hn:n < maxLen) :
    ∃ w',(Instr.mapUpdate T (.map (some b)) (refV r) v).run Tryz.prog w=.ok () w'∧rAt z w' b (n+1) (D.put (.string (kb r)) (.held v)) (fun x=>if x=r then (v,true) else F x)∧w.grownBy w' (some b):=by
 obtain ⟨w',hrun,h5,h6⟩:=h.1.update ref_keyed ht hn (R:=heldR) (ref_key r hs.1 hs.2) (d:=.held v) (ps:=[]) rfl
 refine ⟨w',hrun,⟨h5,h.2.1.put _ _,fun x hx=>?_⟩,h6⟩
 by_cases hxr:x=r
 ·subst hxr
  rw [Maps.atKey_put_same h.2.1 (by trivial),Maps.has_put_same h.2.1 (by trivial)]
  simp
 ·rw [Maps.atKey_put_other (by intro e;injection e with e;exact hxr (kb_inj hx hs e)),Maps.has_put_other (by intro e;injection e with e;exact hxr (kb_inj hx hs e))]
  simp only [if_neg hxr]
  exact h.2.2 x hx
end Go.Proofs.YtcdoicgbjoikkaaGreatDoor.nor
namespace Go.Proofs.YtcdoicgbjoikkaaGreatDoor.nor
open lex tre att
theorem isNm_16 {l:List UInt8}(h:isNm l=true):l.length≤16:=by
 unfold isNm at h
 simp only [Bool.and_eq_true,decide_eq_true_eq] at h
 omega
def NmS (s:Bs):Prop:=(∀ x∈s.ns,x.1.length≤16)∧∀ c∈s.ch,2≤c.1.length∧∀ r∈c.1,r.1.length≤16∧r.2.length≤16
theorem okS_names {s:St}(h:okS s):(∀ r∈s.refs,r.1.length≤16∧r.2.length≤16)∧(s.kind=1→s.name.length≤16):=by
 obtain ⟨⟨lv,h⟩,-⟩:=h
 unfold staE at h
 split at h
 ·rename_i hne;exact absurd h hne
 split at h
 ·exact absurd h (by decide)
 split at h
 ·exact absurd h (by decide)
 rename_i hn
 split at h
 ·exact absurd h (by decide)
 rename_i hr
 have hr':s.refs.all refB=true:=by simpa using hr
 rw [List.all_eq_true] at hr'
 refine ⟨fun r hm=>?_,fun hk=>?_⟩
 ·have:=hr' r hm
  unfold refB at this
  simp only [Bool.and_eq_true,Bool.or_eq_true] at this
  refine ⟨isNm_16 this.1,?_⟩
  rcases this.2 with q | q
  ·rw [List.isEmpty_iff] at q;rw [q];exact Nat.zero_le _
  ·exact isNm_16 q
 ·cases hq:isNm s.name
  ·exact absurd ⟨by omega,by omega,hq⟩ hn
  ·exact isNm_16 hq
theorem okS_refs {s:St}(h:okS s)(h2:s.kind=2):2≤s.refs.length:=by
 obtain ⟨⟨lv,h⟩,-⟩:=h
 unfold staE at h
 split at h
 ·rename_i hne;exact absurd h hne
 rename_i hf
 have hf0:fldE s=0:=by simpa using hf
 unfold fldE at hf0
 split at hf0
 ·exact absurd hf0 (by decide)
 split at hf0
 ·exact absurd hf0 (by decide)
 split at hf0
 ·exact absurd hf0 (by decide)
 rename_i q
 exact Nat.le_of_not_lt fun e=>q (Or.inr ⟨h2,by omega⟩)
theorem NmS.ment {s:Bs}(h:NmS s){n:Nm}(hn:n.length≤16)(p:Pl):NmS (mentC s n p):=by
 unfold mentC
 split
 ·refine ⟨fun x hx=>?_,h.2⟩
  rcases List.mem_append.1 hx with q | q
  ·exact h.1 x q
  ·rw [List.mem_singleton] at q;subst q;exact hn
 ·exact h
theorem NmS.refs {p:Pl}:∀ (l:List Pr) (s:Bs),NmS s→(∀ r∈l,r.1.length≤16∧r.2.length≤16)→NmS (refsC l s p).1
 | [],_,h,_=>h
 | r :: t,s,h,hr=>by
  unfold refsC
  split
  ·exact h
  ·exact NmS.refs t _ (h.ment (hr r (List.mem_cons_self ..)).1 p) fun q hq=>hr q (List.mem_cons_of_mem _ hq)
theorem blk_NmS:(∀ x:St,∀ (p:Pl) (s:Bs),okS x→okB x.body→NmS s→NmS (stmC x p s).1) ∧
    ∀ l:List St,∀ (p:Pl) (s:Bs),okB l→NmS s→NmS (blkC l p s).1:=by
 refine st_ind (fun k n r a b hb p s ho hk hs=>?_) (fun p s _ hs=>?_) (fun x t hx ht p s ho hs=>?_)
 ·obtain ⟨hr,hn⟩:=okS_names ho
  have hr1:=okS_refs ho
  simp only [St.body,St.refs,St.name,St.kind] at hk hr hn hr1
  by_cases h1:k=1
  ·subst h1
   rw [stmC_1]
   split
   ·exact hs
   ·have:=hs.ment (hn rfl) p
    exact ⟨this.1,this.2⟩
  by_cases h2:k=2
  ·subst h2
   rw [stmC_2]
   have:=NmS.refs (p:=p) r s hs hr
   split
   ·exact this
   ·refine ⟨this.1,fun c hc=>?_⟩
    rcases List.mem_append.1 hc with q | q
    ·exact this.2 c q
    ·rw [List.mem_singleton] at q;subst q;exact ⟨hr1 rfl,hr⟩
  by_cases h5:k=5
  ·subst h5
   rw [stmC_5]
   split
   ·exact hs
   ·exact hb _ _ hk ⟨hs.1,hs.2⟩
  ·rw [stmC_n h1 h2 h5];exact hs
 ·rw [blkC_nil];exact hs
 ·obtain ⟨o1,o2,o3⟩:=okB_cons ho
  rw [blkC_cons]
  split
  ·exact hs
  ·have q:=hx (dflt x.kind x.name x.attrs p) s o1 o2 hs
   split
   ·exact q
   ·exact ht _ _ o3 q
theorem parts_short:∀ (l:List (List UInt8)) (out:List (List UInt8 × Int)),(out.length≤8∧∀ p∈out,p.1.length≤16)→((partsL l out).1.length≤8∧∀ p∈(partsL l out).1,p.1.length≤16)
 | [],_,h=>h
 | s :: t,out,h=>by
  unfold partsL
  split
  ·exact ⟨Nat.zero_le _,fun p hp=>by cases hp⟩
  rename_i h1
  split
  ·exact ⟨Nat.zero_le _,fun p hp=>by cases hp⟩
  split
  ·exact ⟨Nat.zero_le _,fun p hp=>by cases hp⟩
  rename_i h3
  refine parts_short t _ ⟨by rw [List.length_append,List.length_singleton];omega,fun p hp=>?_⟩
  rcases List.mem_append.1 hp with q | q
  ·exact h.2 p q
  ·rw [List.mem_singleton] at q
   subst q
   show (partL s).2.1.length≤16
   unfold partL at h1 ⊢
   split
   ·exact Nat.zero_le _
   ·split
    ·exact Nat.zero_le _
    ·split
     ·exact Nat.zero_le _
     ·rename_i hn
      exact isNm_16 (by simpa using hn)
theorem ports_small (s:List UInt8):(portsL s).1.length≤8∧∀ p∈(portsL s).1,p.1.length≤16:=by
 unfold portsL
 split
 ·exact ⟨Nat.zero_le _,fun p hp=>by cases hp⟩
 ·exact parts_short _ _ ⟨Nat.zero_le _,fun p hp=>by cases hp⟩
theorem nd_small {s:Bs}(h:NmS s):∀ x∈ndC' s,x.nm.length≤16∧x.ps.length≤8∧∀ p∈x.ps,p.1.length≤16:=fun x hx=>by
 unfold ndC' at hx
 obtain ⟨i,hi,e⟩:=List.getElem_of_mem hx
 rw [List.getElem_zipWith] at e
 subst e
 rw [fin_ps]
 exact ⟨h.1 _ (List.getElem_mem _),ports_small _⟩
end Go.Proofs.YtcdoicgbjoikkaaGreatDoor.nor
namespace Go.Proofs.YtcdoicgbjoikkaaGreatDoor.nor
open Go.RowKit lex tre att
def encE (F:EnM):Pr→Value × Bool:=fun r=>(.agg #[.int .i64 (F r).1.1,.int .i64 (F r).1.2],(F r).2)
def zEnd:Value:=.agg #[.int .i64 0,.int .i64 0]
theorem encE_put (F:EnM)(k:Pr)(a b:Int):encE (putM F k (a,b))=fun x=>if x=k then (.agg #[.int .i64 a,.int .i64 b],true) else encE F x:=by
 funext x
 unfold encE putM
 by_cases h:x=k
 ·simp only [if_pos h]
 ·simp only [if_neg h]
def EMap (W:World)(b n:Nat)(F:EnM):Prop:=∃ D,rAt zEnd W b n D (encE F)
theorem EMap.keep {W W':World}{b n:Nat}{F:EnM}(h:EMap W b n F)(hb:Below W.heap.size W W'):EMap W' b n F:=by obtain ⟨D,h⟩:=h;exact ⟨D,h.keep hb⟩
theorem EMap.lt {W:World}{b n:Nat}{F:EnM}(h:EMap W b n F):b < W.heap.size:=by obtain ⟨D,h⟩:=h;exact h.lt
theorem EMap.put {W:World}{b n:Nat}{F:EnM}(h:EMap W b n F)(k:Pr)(x y:Int)(hs:Sm k)(hn:n≤100000000):∃ w1,(Instr.mapUpdate 112 (.map (some b)) (.agg #[.string (bb k.1),.string (bb k.2)]) (.agg #[.int .i64 x,.int .i64 y])).run Tryz.prog W=.ok () w1∧EMap w1 b (n+1) (putM F k (x,y))∧W.grownBy w1 (some b):=by
 obtain ⟨D,h⟩:=h
 obtain ⟨w1,h1,h2,h3⟩:=h.put Tryz.underlying112 k (.agg #[.int .i64 x,.int .i64 y]) hs (by unfold maxLen;omega)
 rw [← encE_put] at h2
 exact ⟨w1,h1,⟨_,h2⟩,h3⟩
theorem end_zero (w:World):(zeroValue 117).run Tryz.prog w=.ok zEnd w:=Tryz.zeroValue117 w
theorem EMap.look {W:World}{b n:Nat}{F:EnM}(h:EMap W b n F)(k:Pr)(hs:Sm k){x y:Int}{R:Bool}(hF:F k=((x,y),R)):(Instr.lookup 112 (.map (some b)) (.agg #[.string (bb k.1),.string (bb k.2)]) true).run Tryz.prog W=.ok (.tuple #[.agg #[.int .i64 x,.int .i64 y],.bool R]) W:=by
 obtain ⟨D,h⟩:=h
 have:=h.lookOk Tryz.underlying112 end_zero k hs
 unfold encE at this
 rw [hF] at this
 exact this
def ShN (l:List gra.Nd):Prop:=∀ x∈l,x.nm.length≤16∧x.ps.length≤8∧∀ p∈x.ps,p.1.length≤16
theorem endN_drop {l:List gra.Nd}{k:Nat}(h:k < l.length)(F:EnM):endN (l.drop k) k F=endN (l.drop (k+1)) (k+1) (endP k l[k].nm l[k].ps 0 (putM F (l[k].nm,[]) (k,-1))):=by
 rw [List.drop_eq_getElem_cons h,endN]
theorem endP_drop {l:List (Nm × Int)}{j:Nat}(h:j < l.length)(v:Int)(nm:Nm)(F:EnM):endP v nm (l.drop j) j F=endP v nm (l.drop (j+1)) (j+1) (putM F (nm,l[j].1) (v,j)):=by
 rw [List.drop_eq_getElem_cons h,endP]
set_option maxRecDepth 100000 in
set_option maxHeartbeats 2000000 in
theorem ends_of (w0:World)(b:Nat)(nm:Nm)(d:Bool)(s:Bs)(L:List (gra.Nd × Value))(ev:Value)(es:List gra.Ed)(x:BdV)(N:List gra.Nd)(F0:EnM)(w:World)(hS:Hid (BdF w0 w b nm d s L ev es x))(hN:Hid (L.map (·.1)=N))(hsh:Hid (ShN N))(hl:L.length≤100000)(hF:Hid (endN N 0 em0=F0)) :
    Calls Tryz.prog 59 #[.pointer (some ⟨b,0,none⟩)] w fun e w'=>∃ mb n,e=.returned (.map (some mb))∧EMap w' mb n F0∧Below w.heap.size w w':=by
 obtain ⟨nv,cv,av,hv,mb,kb',avs,hvs⟩:=x
 obtain ⟨no,nc,hnv,-,-⟩:=own_form hS.out.fr
 simp only at hnv
 subst hnv
 have hb0:=al1 w (.map #[] 0)
 have HS0:=Lh (hS.out.below hb0)
 have hm0:EMap (w.alloc (.map #[] 0)) w.heap.size 0 em0:=⟨_,rAt_made zEnd w⟩
 have HM0:=Lh hm0
 have HB0:=Lh hb0
 have c2:(w.alloc (.map #[] 0)).cell? ⟨b,2,none⟩=some (.slice no L.length nc):=HS0.out.box.read.1
 have hmm:=@run_makeMap Tryz.prog
 have HLN:Hid (N.length=L.length):=Lh (by rw [← hN.out,List.length_map])
 have HF0:Hid (endN (N.drop 0) 0 em0=F0):=hF
 have HSW:=hS
 clear hb0 hm0 hS
 go_enter Tryz.func59,Tryz.ntmps59
 go_wp2_with fail
 clear hmm
 generalize w.alloc (.map #[] 0)=w1 at *
 clear c2
 go_loopw [15] (fun iv wr=>∃ (k n:Nat) (F:EnM),iv=.int .i64 k∧k≤L.length∧Below w.heap.size w wr∧EMap wr w.heap.size n F∧n≤9*k∧endN (N.drop k) k F=F0) (fun iv _=>L.length - (intOf iv).toNat)
 case atStart=>exact ⟨0,0,em0,rfl,Nat.zero_le _,HB0.out,HM0.out,Nat.zero_le _,HF0.out⟩
 case round =>
  obtain ⟨k,n,F,rfl,hk,hb,hm,hn,hf⟩:=hrel
  rename World=>wr
  have HB:=Lh hb
  have HM:=Lh hm
  have HFk:=Lh hf
  have hlm:=hm.lt
  clear hb hm hf HS0 HM0 HB0 HF0
  by_cases hlt:k < L.length
  case neg =>
   obtain rfl:k=L.length:=by omega
   have HE:Hid (F=F0):=Lh (by have h:=HFk.out;rw [← HLN.out,List.drop_length] at h;exact h)
   go_wp2
   go_ret
   exact ⟨_,n,rfl,by rw [← HE.out];exact HM.out,HB.out⟩
  have hsr:=HSW.out.below HB.out
  obtain ⟨g,gc,hnv,hat,-,-⟩:=hsr.at hlt
  simp only at hnv
  cases hnv
  have hkN:k < N.length:=by rw [HLN.out];exact hlt
  have hst:=endN_drop hkN F
  rw [HFk.out] at hst
  have hNk:N[k]=L[k].1:=by
   have e:(L.map (·.1))[k]'(by rw [List.length_map];exact hlt)=L[k].1:=by rw [List.getElem_map]
   rw [← e]
   exact getElem_congr_coll hN.out.symm
  have hsk:=hsh.out N[k] (List.getElem_mem hkN)
  have hpv:=hsr.pv L[k] (List.getElem_mem hlt)
  rw [hNk] at hst hsk
  obtain ⟨y,hy⟩:∃ y,L[k]=y:=⟨_,rfl⟩
  rw [hy] at hat hst hsk hpv
  obtain ⟨y,pv⟩:=y
  simp only at hst hsk hpv
  obtain ⟨po,pc,rfl,-,hpm,-⟩:=id hpv.pos
  obtain ⟨hs1,hs2,hs3⟩:=hsk
  have q0:=hat 0 _ rfl
  have q1:=hat 1 _ rfl
  have q2:=hat 2 _ rfl
  have q3:=hat 3 _ rfl
  have q4:=hat 4 _ rfl
  have q5:=hat 5 _ rfl
  replace q0:wr.cell? ⟨g,k*6,none⟩=some (.string (bb y.nm)):=by have:=q0;rwa [Nat.add_zero] at this
  have hal:=al1 wr (.cells #[.string (bb y.nm),.string (bb y.lb),.int .i64 y.w,.int .i64 y.h,.int .i64 y.cl,.slice po y.ps.length pc] 45)
  have HT:=Lh (blk_new wr #[.string (bb y.nm),.string (bb y.lb),.int .i64 y.w,.int .i64 y.h,.int .i64 y.cl,.slice po y.ps.length pc] 45)
  have hm2:=HM.out.keep hal
  have HB2:=Lh (HB.out.alloc HB.out.size (.cells #[.string (bb y.nm),.string (bb y.lb),.int .i64 y.w,.int .i64 y.h,.int .i64 y.cl,.slice po y.ps.length pc] 45))
  obtain ⟨w3,hput,hm3,hg3⟩:=hm2.put (y.nm,[]) (k:Int) (-1) ⟨by unfold maxLen;simp only;omega,by simp⟩ (by omega)
  have HM3:=Lh hm3
  have HB3:=Lh (HB2.out.grown hg3 HB2.out.size (fun q e=>by cases e;exact Nat.le_refl _))
  have hne:wr.heap.size≠w.heap.size:=by omega
  have HT3:Hid (blk w3 wr.heap.size 45 #[.string (bb y.nm),.string (bb y.lb),.int .i64 y.w,.int .i64 y.h,.int .i64 y.cl,.slice po y.ps.length pc]):=Lh (by
   unfold att.blk
   rw [hg3.block _ (by simp) (fun e=>hne (Option.some.inj e))];exact HT.out)
  have hput2:(Instr.mapUpdate 112 (.map (some w.heap.size)) (.agg #[.string (bb y.nm),.string ⟨#[]⟩]) (.agg #[.int .i64 (k:Int),.int .i64 (-1)])).run Tryz.prog (wr.alloc (.cells #[.string (bb y.nm),.string (bb y.lb),.int .i64 y.w,.int .i64 y.h,.int .i64 y.cl,.slice po y.ps.length pc] 45))=.ok () w3:=hput
  have d5:w3.cell? ⟨wr.heap.size,5,none⟩=some (.slice po y.ps.length pc):=by rw [blk_cell HT3.out];rfl
  have HST:=Lh hst
  have HS3:=Lh hs3
  have HMEM:Hid ((y,Value.slice po y.ps.length pc)∈L):=Lh (by rw [← hy];exact List.getElem_mem hlt)
  have i0:(0:Int)≤(k:Int):=by omega
  have i1:(k:Int) < (L.length:Int):=by omega
  have hpl:y.ps.length≤9223372036854775807:=by omega
  clear hput hm3 hg3 hm2 hal hst hs3 hpv hpm hat hy hNk hsr HM HB HT HB2 HFk
  go_wp2_with fail
  clear q0 q1 q2 q3 q4 q5 hput2 d5
  obtain ⟨G,hG⟩:∃ G,wr.heap.size=G:=⟨_,rfl⟩
  simp only [hG]
  rw [hG] at HT3 hne
  go_loopw [29] (fun iv wi=>∃ (j m:Nat) (F':EnM),iv=.int .i64 j∧j≤y.ps.length∧Below w.heap.size w wi∧EMap wi w.heap.size m F'∧m≤9*k+1+j∧endP (k:Int) y.nm (y.ps.drop j) j F'=endP (k:Int) y.nm y.ps 0 (putM F (y.nm,[]) ((k:Int),-1))∧blk wi G 45 #[.string (bb y.nm),.string (bb y.lb),.int .i64 y.w,.int .i64 y.h,.int .i64 y.cl,.slice po y.ps.length pc]) (fun iv _=>y.ps.length - (intOf iv).toNat)
  case atStart=>exact ⟨0,n+1,_,rfl,Nat.zero_le _,HB3.out,HM3.out,by omega,rfl,HT3.out⟩
  case round =>
   obtain ⟨j,m,F',rfl,hj,hb,hm,hmn,hf,ht⟩:=hrel
   rename World=>wi
   have HB:=Lh hb
   have HM:=Lh hm
   have HFj:=Lh hf
   have HT:=Lh ht
   have hlm2:=hm.lt
   clear hb hm hf ht HB3 HM3 HT3
   by_cases hlt2:j < y.ps.length
   case neg =>
    obtain rfl:j=y.ps.length:=by omega
    have HE:Hid (endN (N.drop (k+1)) (k+1) F'=F0):=Lh (by have h:=HFj.out;rw [List.drop_length,endP] at h;rw [h];exact HST.out.symm)
    go_wp2
    go_roundw
    case rel=>exact ⟨k+1,m,F',by go_num,by omega,HB.out,HM.out,by omega,HE.out⟩
    case measure=>simp [intOf];omega
   have hst2:=endP_drop hlt2 (k:Int) y.nm F'
   rw [HFj.out] at hst2
   obtain ⟨A,rfl,c0,c1⟩:=((HSW.out.below HB.out).pv _ HMEM.out).pos.get hlt2
   have hsp:=HS3.out _ (List.getElem_mem hlt2)
   obtain ⟨u,hu⟩:∃ u,y.ps[j]=u:=⟨_,rfl⟩
   rw [hu] at c0 c1 hst2 hsp
   obtain ⟨u1,u2⟩:=u
   simp only at c0 c1 hst2 hsp
   have hal:=al1 wi (.cells #[.string (bb u1),.int .i64 u2] 129)
   have hm2:=HM.out.keep hal
   have HB2:=Lh (HB.out.alloc HB.out.size (.cells #[.string (bb u1),.int .i64 u2] 129))
   have hT2:=blk_below HT.out hal
   obtain ⟨w5,hput,hm5,hg5⟩:=hm2.put (y.nm,u1) (k:Int) (j:Int) ⟨by unfold maxLen;simp only;omega,by unfold maxLen;simp only;omega⟩ (by omega)
   have HM5:=Lh hm5
   have HB5:=Lh (HB2.out.grown hg5 HB2.out.size (fun q e=>by cases e;exact Nat.le_refl _))
   have HT5:Hid (blk w5 G 45 #[.string (bb y.nm),.string (bb y.lb),.int .i64 y.w,.int .i64 y.h,.int .i64 y.cl,.slice (some A) y.ps.length pc]):=Lh (by
    unfold att.blk at hT2 ⊢
    rw [hg5.block _ (heap_lt hT2) (fun e=>hne (Option.some.inj e))];exact hT2)
   have e0:(wi.alloc (.cells #[.string (bb u1),.int .i64 u2] 129)).cell? ⟨G,0,none⟩=some (.string (bb y.nm)):=by rw [blk_cell hT2];rfl
   have HST2:=Lh hst2.symm
   have j0:(0:Int)≤(j:Int):=by omega
   have j1:(j:Int) < (y.ps.length:Int):=by omega
   clear hal hm2 hm5 hg5 hT2 hst2 hu
   go_wp2_with fail
   go_roundw
   case rel=>exact ⟨j+1,m+1,_,by go_num,by omega,HB5.out,HM5.out,by omega,HST2.out,HT5.out⟩
   case measure=>simp [intOf];omega
end Go.Proofs.YtcdoicgbjoikkaaGreatDoor.nor
