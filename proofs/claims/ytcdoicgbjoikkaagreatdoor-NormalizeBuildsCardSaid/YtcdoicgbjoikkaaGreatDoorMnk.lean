/-
  What the guard few of the statements of layer 12 answers: if it says yes, the tree has fewer than 10^12 statements with few references and attributes. Condition: statements in memory.
  How large the machine of layer 12's reference gets, and that its attributes stay accepted. No function of the program is named here; conditions as each theorem states them.
  What cluster of the reference's machine does (layer 12), over what block does with its body. Conditions: a machine in memory with room, valid statements in memory.
  What the two loops of edges of the reference's machine keep (layer 12). No condition.
-/
import Derived.Test.YtcdoicgbjoikkaaGreatDoorMne
namespace Go.Proofs.YtcdoicgbjoikkaaGreatDoor.nor
open Go.RowKit lex tre
def fewN:Nat→Nat
 | 0=>0
 | k+1=>20*(1+fewN k)
def FewOut (l:List St)(k:Nat)(w:World)(e:Ending)(w':World):Prop:=∃ b,e=.returned (.bool b)∧(b=true→cnt l≤fewN k∧okL l)∧w'=w
def FewOk (l:List St):Prop:=∀ (w:World) (v:Value) (k:Nat) (d:Int),k≤9→d=9 - (k:Int)→Sts w v l→Calls Tryz.prog 8 #[v,.int .i64 d] w (FewOut l k w)
theorem ok_snoc {l:List St}{s:St}(h:okL l)(h1:s.refs.length≤40)(h2:s.attrs.length≤40)(hb:okL s.body):okL (l ++ [s]):=by
 intro x hx
 rw [preL_app] at hx
 rcases List.mem_append.1 hx with hx | hx
 ·exact h x hx
 ·exact okL_cons.2 ⟨⟨h1,h2⟩,hb,fun y hy=>by cases hy⟩ x hx
theorem cnt_snoc (l:List St)(s:St):cnt (l ++ [s])=cnt l+1+cnt s.body:=by
 unfold cnt
 rw [preL_app,List.length_append,preL_cons,preL_nil,List.append_nil,preS_eq,List.length_cons,pre_len.2 s.body _ 0]
 omega
set_option maxRecDepth 100000 in
set_option maxHeartbeats 8000000 in
theorem few_step (l:List St)(ih:∀ s∈l,FewOk s.body):FewOk l:=by
 intro w v q d hq hd hs
 have hs':=hs
 obtain ⟨ao,cap,rfl,hc,hm,_⟩:=hs'
 have HS:=Lh hs
 have IH:=Lh ih
 unfold maxLen at hm
 have hlm:l.length≤9223372036854775807:=by omega
 clear hs ih hc hm
 by_cases g1:(20:Int) < (l.length:Int)
 ·have d1:decide ((20:Int) < (l.length:Int))=true:=decide_eq_true g1
  have d1':decide (20 < l.length)=true:=decide_eq_true (by omega)
  clear hd
  go_enter Tryz.func8,Tryz.ntmps8
  go_wp2
  go_ret
  exact ⟨false,rfl,(fun h=>by cases h),rfl⟩
 have d1:decide ((20:Int) < (l.length:Int))=false:=decide_eq_false g1
 have d1':decide (20 < l.length)=false:=decide_eq_false (by omega)
 by_cases g2:(8:Int) < d
 ·have d2:decide ((8:Int) < d)=true:=decide_eq_true g2
  clear hd
  go_enter Tryz.func8,Tryz.ntmps8
  go_wp2
  go_ret
  exact ⟨false,rfl,(fun h=>by cases h),rfl⟩
 have d2:decide ((8:Int) < d)=false:=decide_eq_false g2
 obtain ⟨p,rfl⟩:∃ p,q=p+1:=⟨q - 1,by omega⟩
 have HD:Hid (d+1=9 - (p:Int)):=Lh (by omega)
 have hd0:0≤d:=by omega
 have hd9:d≤9:=by omega
 have hp9:p≤9:=by omega
 have hl20:l.length≤20:=by omega
 clear hd hq
 go_enter Tryz.func8,Tryz.ntmps8
 go_wp2_with fail
 go_loop [5] (fun iv=>∃ k:Nat,iv=.int .i64 k∧k≤l.length∧cnt (l.take k)≤k*(1+fewN p)∧okL (l.take k)) (fun iv=>l.length - (intOf iv).toNat)
 case atStart=>exact ⟨0,rfl,Nat.zero_le _,by rw [List.take_zero,cnt_nil];omega,fun x hx=>by rw [List.take_zero] at hx;cases hx⟩
 case round =>
  obtain ⟨k,rfl,hk,hcn,hok⟩:=hrel
  have HCN:=Lh hcn
  have HOK:=Lh hok
  clear hcn hok
  by_cases hlt:k < l.length
  ·obtain ⟨A,rfl,hst⟩:=HS.out.get hlt
   obtain ⟨_,_,_,⟨rv,c2,hrv⟩,⟨av,c3,hav⟩,bv,c4,hbv⟩:=(stAt_eq _ _ _).1 hst
   obtain ⟨ro,rc,rfl,_,_,_⟩:=hrv
   obtain ⟨so,sc,rfl,_,_,_⟩:=hav
   have hb:=IH.out l[k] (List.getElem_mem hlt)
   have htk:=(tre.cnt_take hlt).2
   obtain ⟨s,hse⟩:∃ s,l[k]=s:=⟨_,rfl⟩
   rw [hse] at c2 c3 hbv hb htk
   have HBC:=Lh (hb w bv p (d+1) hp9 HD.out hbv)
   have HTK:=Lh htk
   have z0:(0:Int)≤(k:Int):=by omega
   have z1:(k:Int) < (l.length:Int):=by omega
   clear hst hbv hb hse htk
   by_cases r1:(10:Int) < (s.refs.length:Int)
   ·have e1:decide ((10:Int) < (s.refs.length:Int))=true:=decide_eq_true r1
    have e1':decide (10 < s.refs.length)=true:=decide_eq_true (by omega)
    go_wp2
    go_ret
    exact ⟨false,rfl,(fun h=>by cases h),rfl⟩
   have e1:decide ((10:Int) < (s.refs.length:Int))=false:=decide_eq_false r1
   have e1':decide (10 < s.refs.length)=false:=decide_eq_false (by omega)
   by_cases r2:(20:Int) < (s.attrs.length:Int)
   ·have e2:decide ((20:Int) < (s.attrs.length:Int))=true:=decide_eq_true r2
    have e2':decide (20 < s.attrs.length)=true:=decide_eq_true (by omega)
    go_wp2
    go_ret
    exact ⟨false,rfl,(fun h=>by cases h),rfl⟩
   have e2:decide ((20:Int) < (s.attrs.length:Int))=false:=decide_eq_false r2
   have e2':decide (20 < s.attrs.length)=false:=decide_eq_false (by omega)
   have hz1:s.refs.length≤40:=by omega
   have hz2:s.attrs.length≤40:=by omega
   go_wp2_with fail
   refine HBC.out.mono ?_
   rintro e w2 ⟨b,rfl,hb,rfl⟩
   have HB:=Lh hb
   clear hb
   cases b
   ·go_wp2
    go_ret
    exact ⟨false,rfl,(fun h=>by cases h),rfl⟩
   ·obtain ⟨hb1,hb2⟩:=HB.out rfl
    have HN:Hid (cnt (l.take (k+1))≤(k+1)*(1+fewN p)∧okL (l.take (k+1))):=Lh ⟨by rw [HTK.out,cnt_snoc,Nat.add_mul,Nat.one_mul];have:=HCN.out;omega,by rw [HTK.out];exact ok_snoc HOK.out hz1 hz2 hb2⟩
    clear hb1 hb2
    go_wp2
    go_round
    case rel=>exact ⟨k+1,by go_num,by omega,HN.out.1,HN.out.2⟩
    case measure=>simp [intOf];omega
  ·obtain rfl:k=l.length:=by omega
   go_wp2
   go_ret
   refine ⟨true,rfl,(fun _=>?_),rfl⟩
   have h1:=HCN.out
   have h2:=HOK.out
   rw [List.take_length] at h1 h2
   refine ⟨?_,h2⟩
   show cnt l≤20*(1+fewN p)
   exact Nat.le_trans h1 (Nat.mul_le_mul_right _ hl20)
theorem few_of (l:List St):FewOk l:=lst_ind few_step l
theorem few_bound:fewN 9≤1000000000000:=by decide
end Go.Proofs.YtcdoicgbjoikkaaGreatDoor.nor
namespace Go.Proofs.YtcdoicgbjoikkaaGreatDoor.nor
open lex tre att
def Room (s:Sta)(n:Nat):Prop:=s.ns.length+n≤100000∧s.ats.length+n≤100000∧s.en.length+n≤100000∧s.cs.length+n≤100000
theorem Room.le {s:Sta}{n m:Nat}(h:Room s n)(hm:m≤n):Room s m:=by
 obtain ⟨h1,h2,h3,h4⟩:=h
 exact ⟨by omega,by omega,by omega,by omega⟩
theorem Room.ment {s:Sta}{n:Nat}(h:Room s (n+1))(m:Nm)(p:Pl):Room (mentS s m p) n:=by
 obtain ⟨h1,h2,h3,h4⟩:=h
 unfold mentS Room
 split
 ·simp only [List.length_append,List.length_singleton];omega
 ·simp only;omega
theorem Room.refs {p:Pl}:∀ (l:List Pr) (s:Sta) (n:Nat),Room s (n+l.length)→Room (refsS l s p) n
 | [],_,_,h=>h
 | r :: t,s,n,h=>by
  unfold refsS
  rw [List.length_cons] at h
  split
  ·exact h.le (by omega)
  ·exact Room.refs t _ n (Room.ment (h.le (by omega)) _ _)
theorem refs_en (p:Pl):∀ (l:List Pr) (s:Sta),(refsS l s p).en=s.en
 | [],_=>rfl
 | r :: t,s=>by
  unfold refsS
  split
  ·rfl
  ·rw [refs_en p t,ment_en]
theorem Room.edges {s:Sta}{n:Nat}{r a:List Pr}{p:Pl}(h:Room s (n+r.length)):Room (edgesS s r a p) n:=by
 have h1:=Room.refs (p:=p) r s n h
 unfold edgesS
 split
 ·exact h1
 ·refine ⟨h1.1,h1.2.1,?_,h1.2.2.2⟩
  have h2:=endsL_len (refsI r s p) r (mergeL p.de a)
  have h3:=h.2.2.1
  simp only [List.length_append,refs_en]
  omega
theorem Room.chg {s:Sta}{n:Nat}(h:Room s n)(i:Int)(m:List Pr):Room ⟨s.ns,chgA s.ats i m,s.cs,s.en,s.e⟩ n :=
 ⟨h.1,by show (chgA s.ats i m).length+n≤_;rw [chg_len];exact h.2.1,h.2.2.1,h.2.2.2⟩
theorem Room.err {s:Sta}{n:Nat}(h:Room s n)(e:Int):Room ⟨s.ns,s.ats,s.cs,s.en,e⟩ n:=h
theorem Room.clu {s:Sta}{n:Nat}(h:Room s (n+1))(c:Cl)(e:Int):Room ⟨s.ns,s.ats,s.cs ++ [c],s.en,e⟩ n:=by
 obtain ⟨h1,h2,h3,h4⟩:=h
 exact ⟨by show s.ns.length+n≤_;omega,by show s.ats.length+n≤_;omega,by show s.en.length+n≤_;omega,by simp only [List.length_append,List.length_singleton];omega⟩
theorem room_blk:(∀ x:St,∀ (p:Pl) (s:Sta) (m:Nat),okS x→okB x.body→Room s (42*(1+cnt x.body)+m)→Room (stmS x p s) m) ∧
    ∀ l:List St,∀ (p:Pl) (s:Sta) (m:Nat),okB l→Room s (42*cnt l+m)→Room (blkS l p s) m:=by
 refine st_ind (fun k n r a b hb p s m ho hk hs=>?_) (fun p s m _ hs=>?_) (fun x t hx ht p s m ho hs=>?_)
 ·have hr:r.length≤40:=ho.2
  simp only [St.body] at hk hs
  rw [stmS]
  by_cases h1:k=1
  ·rw [if_pos h1];exact (Room.ment (hs.le (by omega)) n p).chg _ _
  rw [if_neg h1]
  by_cases h2:k=2
  ·rw [if_pos h2];exact Room.edges (hs.le (by omega))
  rw [if_neg h2]
  by_cases h5:k=5
  ·rw [if_pos h5]
   by_cases hc:clusd s.cs n=true∨0≤nodeI s.ns n 0
   ·rw [if_pos hc];exact (hs.le (by omega)).err 6
   ·rw [if_neg hc];exact hb _ _ m hk ((hs.le (by omega)).clu _ _)
  ·rw [if_neg h5];exact hs.le (by omega)
 ·rw [blkS_nil];exact hs.le (by omega)
 ·obtain ⟨o1,o2,o3⟩:=okB_cons ho
  rw [cnt_cons] at hs
  rw [blkS_cons]
  split
  ·exact hs.le (by omega)
  ·split
   ·exact hs.le (by omega)
   ·exact ht _ _ m o3 (hx p s (42*cnt t+m) o1 o2 (hs.le (by omega)))
def GaR (s:Sta):Prop:=(∀ a∈s.ats,Ga 1 a)∧∀ e∈s.en,Ga 2 e.ats
theorem GaR.ment {s:Sta}{p:Pl}(h:GaR s)(hp:GaP p)(n:Nm):GaR (mentS s n p):=by
 unfold mentS
 split
 ·refine ⟨fun a ha=>?_,h.2⟩
  rcases List.mem_append.1 ha with q | q
  ·exact h.1 a q
  ·rw [List.mem_singleton] at q;subst q;exact hp.1
 ·exact h
theorem GaR.refs {p:Pl}(hp:GaP p):∀ (l:List Pr) (s:Sta),GaR s→GaR (refsS l s p)
 | [],_,h=>h
 | r :: t,s,h=>by
  unfold refsS
  split
  ·exact h
  ·exact GaR.refs hp t _ (h.ment hp _)
theorem ends_ats (m:List Pr):∀ (l:List Int) (rs:List Pr),∀ e∈endsL l rs m,e.ats=m
 | a :: b :: t,r :: q :: u,e,h=>by
  rw [endsL] at h
  rcases List.mem_cons.1 h with rfl | h
  ·rfl
  ·exact ends_ats m (b :: t) (q :: u) e h
 | [],_,_,h=>by simp [endsL] at h
 | [_],_,_,h=>by simp [endsL] at h
 | _ :: _ :: _,[],_,h=>by simp [endsL] at h
 | _ :: _ :: _,[_],_,h=>by simp [endsL] at h
theorem GaR.edges {s:Sta}{r a:List Pr}{p:Pl}(h:GaR s)(hp:GaP p)(ha:firC 2 a=0):GaR (edgesS s r a p):=by
 have h1:=GaR.refs hp r s h
 unfold edgesS
 split
 ·exact h1
 ·refine ⟨h1.1,fun e he=>?_⟩
  rcases List.mem_append.1 he with q | q
  ·exact h1.2 e q
  ·rw [ends_ats _ _ _ e q];exact hp.2.merge ha
theorem GaR.chg {s:Sta}(h:GaR s)(i:Int){m:List Pr}(hm:firC 1 m=0):GaR ⟨s.ns,chgA s.ats i m,s.cs,s.en,s.e⟩ :=
 ⟨fun a ha=>by
  rcases chg_mem m s.ats i a ha with q | ⟨b,hb,rfl⟩
  ·exact h.1 a q
  ·exact (h.1 b hb).merge hm,h.2⟩
theorem gar_blk:(∀ x:St,∀ (p:Pl) (s:Sta),okS x→okB x.body→stE x.kind x.name x.attrs=0→GaP p→GaR s→GaR (stmS x p s)) ∧
    ∀ l:List St,∀ (p:Pl) (s:Sta),okB l→GaP p→GaR s→GaR (blkS l p s):=by
 refine st_ind (fun k n r a b hb p s ho hk he hp hs=>?_) (fun p s _ _ hs=>?_) (fun x t hx ht p s ho hp hs=>?_)
 ·simp only [St.body,St.kind,St.name,St.attrs] at hk he
  rw [stmS]
  by_cases h1:k=1
  ·rw [if_pos h1];subst h1;exact (hs.ment hp n).chg _ (stE_1 he)
  rw [if_neg h1]
  by_cases h2:k=2
  ·rw [if_pos h2];subst h2;exact hs.edges hp (stE_2 he)
  rw [if_neg h2]
  by_cases h5:k=5
  ·rw [if_pos h5]
   by_cases hc:clusd s.cs n=true∨0≤nodeI s.ns n 0
   ·rw [if_pos hc];exact hs
   ·rw [if_neg hc];exact hb _ _ hk ⟨hp.1,hp.2⟩ hs
  ·rw [if_neg h5];exact hs
 ·rw [blkS_nil];exact hs
 ·obtain ⟨o1,o2,o3⟩:=okB_cons ho
  rw [blkS_cons]
  split
  ·exact hs
  ·split
   ·exact hs
   ·rename_i he
    have he':stE x.kind x.name x.attrs=0:=by simpa using he
    exact ht _ _ o3 (hp.dflt he' (sta_kind3 o1)) (hx p s o1 o2 he' hp hs)
theorem blkS_drop {l:List St}{i:Nat}(hi:i < l.length)(p:Pl)(s:Sta):blkS (l.drop i) p s=if s.e≠0 then s else if stE l[i].kind l[i].name l[i].attrs≠0 then ⟨s.ns,s.ats,s.cs,s.en,stE l[i].kind l[i].name l[i].attrs⟩ else blkS (l.drop (i+1)) (dflt l[i].kind l[i].name l[i].attrs p) (stmS l[i] p s):=by
 rw [List.drop_eq_getElem_cons hi,blkS_cons]
end Go.Proofs.YtcdoicgbjoikkaaGreatDoor.nor
namespace Go.Proofs.YtcdoicgbjoikkaaGreatDoor.nor
open Go.RowKit lex tre att
theorem info_clR:(Tryz.prog.info? 47).map (fun i=>(i.zero,i.size,i.bytes))=some (some (.agg #[.string ⟨#[]⟩,.int .i64 0]),2,24):=by kernel_rfl
theorem ret0 {P:Program}{fn:Func}{R:Ending→World→Prop}{a:Act}{w:World}(hr:fn.results=#[])(hd:a.defers=[])(hR:R (.returned (.tuple #[])) w):bodyPost P fn R .ret a w :=
 bodyPost_ret (results_none hr _ _ _) hd hR
def BlkR (l:List St):Prop:=∀ (w0:World) (b:Nat) (nm:Nm) (d:Bool) (s:Sta) (x:StV) (bv:Value) (p:Pl) (dv ev:Value) (w:World),StB w w0.heap.size b nm d s x→Below w0.heap.size w0 w→s.e=0→PrsT w dv p.dn→PrsT w ev p.de→Sts w0 bv l→okB l→Room s (42*cnt l)→GaR s→GaP p →
 Calls Tryz.prog 29 #[.pointer (some ⟨b,0,none⟩),bv,.agg #[.int .i64 p.cl,dv,ev]] w fun e w'=>e=.returned (.tuple #[])∧MacOut w0.heap.size b nm d (blkS l p s) w w'
theorem BlkR.use {l:List St}(h:Hid (BlkR l))(w0:World)(b:Nat)(nm:Nm)(d:Bool)(s:Sta)(x:StV)(bv:Value)(p:Pl)(dv ev:Value)(S':Sta)(w:World)(hS:Hid (StB w w0.heap.size b nm d s x))(hO:Hid (Below w0.heap.size w0 w))(h0:Hid (s.e=0))(hp:Hid (PrsT w dv p.dn))(hq:Hid (PrsT w ev p.de))(hs:Hid (Sts w0 bv l))(ho:Hid (okB l))(hz:Hid (Room s (42*cnt l)))(hg:Hid (GaR s))(hgp:Hid (GaP p))(hR:Hid (blkS l p s=S')) :
    Calls Tryz.prog 29 #[.pointer (some ⟨b,0,none⟩),bv,.agg #[.int .i64 p.cl,dv,ev]] w fun e w'=>e=.returned (.tuple #[])∧MacOut w0.heap.size b nm d S' w w':=by
 have:=h.out w0 b nm d s x bv p dv ev w hS.out hO.out h0.out hp.out hq.out hs.out ho.out hz.out hg.out hgp.out
 rw [hR.out] at this;exact this
set_option maxRecDepth 100000 in
set_option maxHeartbeats 1000000 in
theorem cluster_of (w0:World)(b:Nat)(nm:Nm)(d:Bool)(s:Sta)(x:StV)(k:Int)(n:Nm)(ro ao:Option Addr)(rn rc an ac:Nat)(bv:Value)(bd:List St)(p:Pl)(dv ev:Value)(S':Sta)(w:World)(hIH:Hid (BlkR bd))(hS:Hid (StB w w0.heap.size b nm d s x))(hO:Hid (Below w0.heap.size w0 w))(h0:Hid (s.e=0))(hp:Hid (PrsT w dv p.dn))(hq:Hid (PrsT w ev p.de))(hB:Hid (Sts w0 bv bd))(ho:Hid (okB bd))(hz:Hid (Room s (42*(1+cnt bd))))(hga:Hid (GaR s))(hgp:Hid (GaP p))(hE:Hid ((if clusd s.cs n=true∨0≤nodeI s.ns n 0 then ⟨s.ns,s.ats,s.cs,s.en,6⟩ else blkS bd ⟨s.cs.length,p.dn,p.de⟩ ⟨s.ns,s.ats,s.cs ++ [(n,p.cl)],s.en,s.e⟩)=S')) :
    Calls Tryz.prog 70 #[.pointer (some ⟨b,0,none⟩),.agg #[.int .i64 k,.string (bb n),.slice ro rn rc,.slice ao an ac,bv],.agg #[.int .i64 p.cl,dv,ev]] w fun e w'=>e=.returned (.tuple #[])∧MacOut w0.heap.size b nm d S' w w':=by
 obtain ⟨po,pc,rfl,_,_,_⟩:=id hp.out.prs
 obtain ⟨eo,ec,rfl,_,_,_⟩:=id hq.out.prs
 obtain ⟨bo,bc,rfl,_,_,_⟩:=id hB.out
 have hb1:=al2 w (.cells #[.int .i64 k,.string (bb n),.slice ro rn rc,.slice ao an ac,.slice bo bd.length bc] 56) (.cells #[.int .i64 p.cl,.slice po p.dn.length pc,.slice eo p.de.length ec] 77)
 have hs1:=hS.out.below hb1
 have hsb:blk ((w.alloc (.cells #[.int .i64 k,.string (bb n),.slice ro rn rc,.slice ao an ac,.slice bo bd.length bc] 56)).alloc (.cells #[.int .i64 p.cl,.slice po p.dn.length pc,.slice eo p.de.length ec] 77)) w.heap.size 56 #[.int .i64 k,.string (bb n),.slice ro rn rc,.slice ao an ac,.slice bo bd.length bc]:=(TFr.alloc _ _).blk (blk_new ..) rfl
 have hbp:blk ((w.alloc (.cells #[.int .i64 k,.string (bb n),.slice ro rn rc,.slice ao an ac,.slice bo bd.length bc] 56)).alloc (.cells #[.int .i64 p.cl,.slice po p.dn.length pc,.slice eo p.de.length ec] 77)) (w.heap.size+1) 77 #[.int .i64 p.cl,.slice po p.dn.length pc,.slice eo p.de.length ec]:=by have:=blk_new (w.alloc (.cells #[.int .i64 k,.string (bb n),.slice ro rn rc,.slice ao an ac,.slice bo bd.length bc] 56)) #[.int .i64 p.cl,.slice po p.dn.length pc,.slice eo p.de.length ec] 77;rwa [show (w.alloc (.cells #[.int .i64 k,.string (bb n),.slice ro rn rc,.slice ao an ac,.slice bo bd.length bc] 56)).heap.size=w.heap.size+1 by simp] at this
 have HPP:=Lh (hp.out.keep hb1)
 have HQP:=Lh (hq.out.keep hb1)
 have HT1:Hid (TFr w ((w.alloc (.cells #[.int .i64 k,.string (bb n),.slice ro rn rc,.slice ao an ac,.slice bo bd.length bc] 56)).alloc (.cells #[.int .i64 p.cl,.slice po p.dn.length pc,.slice eo p.de.length ec] 77))):=Lh (TFr.below hb1)
 have HB1:Hid (Below w0.heap.size w ((w.alloc (.cells #[.int .i64 k,.string (bb n),.slice ro rn rc,.slice ao an ac,.slice bo bd.length bc] 56)).alloc (.cells #[.int .i64 p.cl,.slice po p.dn.length pc,.slice eo p.de.length ec] 77))):=Lh (hb1.mono hS.out.base)
 have HS1:=Lh hs1
 have HSB:=Lh hsb
 have HBP:=Lh hbp
 have hPb:w.heap.size≠b:=Nat.ne_of_gt hS.out.lt
 have hlt0:b < w.heap.size:=hS.out.lt
 obtain ⟨R,hR1⟩:∃ R,clusd s.cs n=R:=⟨_,rfl⟩
 obtain ⟨i,hi1⟩:∃ i,nodeI s.ns n 0=i:=⟨_,rfl⟩
 have HRQ:Hid ((if R=true∨0≤i then ⟨s.ns,s.ats,s.cs,s.en,6⟩ else blkS bd ⟨s.cs.length,p.dn,p.de⟩ ⟨s.ns,s.ats,s.cs ++ [(n,p.cl)],s.en,s.e⟩)=S'):=Lh (by rw [← hE.out,hR1,hi1])
 have HR1:Hid (clusd s.cs (bb n).data.toList=R):=Lh hR1
 have HI1:Hid (nodeI s.ns (bb n).data.toList 0=i):=Lh hi1
 have hcl:s.cs.length≤100000:=by have:=hz.out.2.2.2;omega
 obtain ⟨nv,cv,av,sv,avs,evs⟩:=x
 obtain ⟨co,cc,hcv,-,-⟩:=own_form HS1.out.cr
 simp only at hcv
 subst hcv
 have HN:Hid (nmsAt ((w.alloc (.cells #[.int .i64 k,.string (bb n),.slice ro rn rc,.slice ao an ac,.slice bo bd.length bc] 56)).alloc (.cells #[.int .i64 p.cl,.slice po p.dn.length pc,.slice eo p.de.length ec] 77)) 6 nv s.ns):=Lh (row_nms (fun _=>rfl) (fun _=>rfl) hs1.nr)
 have HC:Hid (nmsAt ((w.alloc (.cells #[.int .i64 k,.string (bb n),.slice ro rn rc,.slice ao an ac,.slice bo bd.length bc] 56)).alloc (.cells #[.int .i64 p.cl,.slice po p.dn.length pc,.slice eo p.de.length ec] 77)) 2 (.slice co s.cs.length cc) s.cs):=Lh (row_nms (fun _=>rfl) (fun _=>rfl) hs1.cr)
 have b2:((w.alloc (.cells #[.int .i64 k,.string (bb n),.slice ro rn rc,.slice ao an ac,.slice bo bd.length bc] 56)).alloc (.cells #[.int .i64 p.cl,.slice po p.dn.length pc,.slice eo p.de.length ec] 77)).cell? ⟨b,2,none⟩=some nv:=HS1.out.box.read.1
 have b4:((w.alloc (.cells #[.int .i64 k,.string (bb n),.slice ro rn rc,.slice ao an ac,.slice bo bd.length bc] 56)).alloc (.cells #[.int .i64 p.cl,.slice po p.dn.length pc,.slice eo p.de.length ec] 77)).cell? ⟨b,4,none⟩=some (.slice co s.cs.length cc):=HS1.out.box.read.2.1
 have hfz:=HS1.out.box.open 7
 have c7:((w.alloc (.cells #[.int .i64 k,.string (bb n),.slice ro rn rc,.slice ao an ac,.slice bo bd.length bc] 56)).alloc (.cells #[.int .i64 p.cl,.slice po p.dn.length pc,.slice eo p.de.length ec] 77)).cell? ⟨b,7,none⟩=some (.int .i64 s.e):=HS1.out.box.read.2.2.2.2
 obtain ⟨X,hX⟩:∃ X,bb n=X:=⟨_,rfl⟩
 rw [hX] at HR1 HI1
 obtain ⟨W1,hW1⟩:∃ W1,(w.alloc (.cells #[.int .i64 k,.string (bb n),.slice ro rn rc,.slice ao an ac,.slice bo bd.length bc] 56)).alloc (.cells #[.int .i64 p.cl,.slice po p.dn.length pc,.slice eo p.de.length ec] 77)=W1:=⟨_,rfl⟩
 have HW1:Hid ((w.alloc (.cells #[.int .i64 k,.string X,.slice ro rn rc,.slice ao an ac,.slice bo bd.length bc] 56)).alloc (.cells #[.int .i64 p.cl,.slice po p.dn.length pc,.slice eo p.de.length ec] 77)=W1):=Lh (by rw [← hX];exact hW1)
 rw [hW1] at HPP HQP HT1 HB1 HS1 HSB HBP HN HC b2 b4 hfz c7
 have a1:W1.cell? ⟨w.heap.size,1,none⟩=some (.string X):=by rw [blk_cell HSB.out,← hX];rfl
 have HX:=Lh hX
 rw [hX]
 clear hs1 hb1 hsb hbp hE hS hp hq hR1 hi1 hW1 hX
 go_enter Tryz.func70,Tryz.ntmps70
 go_wp2_with fail
 rw [HW1.out]
 clear HW1
 refine (clustered_of b _ s.cs X R W1 b4 HC HR1).mono ?_
 rintro e w1 ⟨rfl,hw1⟩
 subst w1
 clear b4
 cases R
 case true =>
  obtain rfl:=HRQ.out
  clear b2 a1 HRQ
  go_wp2
  obtain ⟨m1,m2,m3⟩:=HS1.out.err 6
  refine ret0 rfl rfl ?_
  exact ⟨rfl,_,m1,HT1.out.trans m2,HB1.out.trans m3⟩
 go_wp2_with fail
 refine (node_of b _ s.ns X i W1 b2 HN HI1).mono ?_
 rintro e w1 ⟨rfl,hw1⟩
 subst w1
 clear b2
 by_cases g:0≤i
 case pos =>
  have dg:decide (0≤i)=true:=decide_eq_true g
  obtain rfl:=HRQ.out
  clear a1 HRQ
  go_wp2
  obtain ⟨m1,m2,m3⟩:=HS1.out.err 6
  refine ret0 rfl rfl ?_
  exact ⟨rfl,_,m1,HT1.out.trans m2,HB1.out.trans m3⟩
 have dg:decide (0≤i)=false:=decide_eq_false g
 have HRB:Hid (blkS bd ⟨s.cs.length,p.dn,p.de⟩ ⟨s.ns,s.ats,s.cs ++ [(n,p.cl)],s.en,s.e⟩=S'):=Lh (by have h:=HRQ.out;rw [if_neg (by simpa using g)] at h;exact h)
 clear HRQ HN HC HR1 HI1 g hfz c7
 go_wp2_with fail
 clear a1 dg
 have hs1:W1.cell? ⟨w.heap.size,1,none⟩=some (.string (bb n)):=by rw [blk_cell HSB.out];rfl
 have hs2:W1.cell? ⟨w.heap.size+1,0,none⟩=some (.int .i64 p.cl):=by rw [blk_cell HBP.out];rfl
 have hc4:W1.drew.cell? ⟨b,4,none⟩=some (.slice co s.cs.length cc):=HS1.out.box.read.2.1
 obtain ⟨i9,hi0,hz0,hz1,hz2⟩:=info_of info_clR
 have hbase:=HS1.out.base
 have hblt:=HS1.out.lt
 refine wp_region_held_drew (S:=(fun W:World=>W.cell? ⟨w.heap.size,1,none⟩=some (.string (bb n))∧W.cell? ⟨w.heap.size+1,0,none⟩=some (.int .i64 p.cl))) (by kernel_rfl) (⟨s_drew hs1,s_drew hs2⟩) (fun hHeld=>?_)
 refine tk 0 20 (.pointer (some ⟨b,0,none⟩)) ?_ ?_
 ·(intro W hSw;(try dsimp only at hSw);obtain ⟨hs0,hs1⟩:=hSw
   go_simp)
 try simp only [sA,sB,sC]
 refine tk 1 21 (.pointer (some ⟨b,0,none⟩)) ?_ ?_
 ·(intro W hSw;(try dsimp only at hSw);obtain ⟨hs0,hs1⟩:=hSw
   go_simp)
 try simp only [sA,sB,sC]
 refine tk 2 22 (.pointer (some ⟨b,0,none⟩)) ?_ ?_
 ·(intro W hSw;(try dsimp only at hSw);obtain ⟨hs0,hs1⟩:=hSw
   go_simp)
 try simp only [sA,sB,sC]
 refine tk 3 23 (.pointer (some ⟨b,0,none⟩)) ?_ ?_
 ·(intro W hSw;(try dsimp only at hSw);obtain ⟨hs0,hs1⟩:=hSw
   go_simp)
 try simp only [sA,sB,sC]
 refine tk 4 24 (.pointer (some ⟨b,4,none⟩)) ?_ ?_
 ·(intro W hSw;(try dsimp only at hSw);obtain ⟨hs0,hs1⟩:=hSw
   go_simp)
 try simp only [sA,sB,sC]
 refine tk 6 26 (.pointer (some ⟨w.heap.size,1,none⟩)) ?_ ?_
 ·(intro W hSw;(try dsimp only at hSw);obtain ⟨hs0,hs1⟩:=hSw
   go_simp)
 try simp only [sA,sB,sC]
 refine tk 7 27 (.string (bb n)) ?_ ?_
 ·(intro W hSw;(try dsimp only at hSw);obtain ⟨hs0,hs1⟩:=hSw
   go_simp)
 try simp only [sA,sB,sC]
 refine tk 8 28 (.pointer (some ⟨(w.heap.size+1),0,none⟩)) ?_ ?_
 ·(intro W hSw;(try dsimp only at hSw);obtain ⟨hs0,hs1⟩:=hSw
   go_simp)
 try simp only [sA,sB,sC]
 refine tk 9 29 (.int .i64 p.cl) ?_ ?_
 ·(intro W hSw;(try dsimp only at hSw);obtain ⟨hs0,hs1⟩:=hSw
   go_simp)
 try simp only [sA,sB,sC]
 refine tk 10 30 (.agg #[.string (bb n),.int .i64 p.cl]) ?_ ?_
 ·(intro W hSw;(try dsimp only at hSw);obtain ⟨hs0,hs1⟩:=hSw
   go_simp)
 try simp only [sA,sB,sC]
 refine wpAnyH_ready (rs:=[5,11]) (by kernel_rfl) (by simp) ?_
 refine AllReadyH.cons rfl (fun K hK=>?_) (AllReadyH.cons rfl (fun K hK=>?_) AllReadyH.nil)
 ·
  go_simp
  refine hK.out _ _ ⟨s_drew hs1,s_drew hs2⟩ (fun hHeld=>?_)
  clear hK K
  try simp only [sA,sB,sC]
  refine wpAnyH_ready (rs:=[11]) (by kernel_rfl) (by simp) ?_
  refine AllReadyH.cons rfl (fun K hK=>?_) AllReadyH.nil
  go_simp
  refine hK.out _ _ ⟨s_alloc (s_drew hs1),s_alloc (s_drew hs2)⟩ (fun hHeld=>?_)
  clear hK K
  try simp only [sA,sB,sC]
  refine wpAnyH_ready (rs:=[12]) (by kernel_rfl) (by simp) ?_
  refine AllReadyH.cons rfl (fun K hK=>?_) AllReadyH.nil
  refine step_append_lies _ (by rfl) _ _ _ (by rfl) w0.heap.size 47 i9 _ 2 24 Tryz.underlying29 hi0 hz0 hz1 hz2 rfl (by omega) (.slice co s.cs.length cc) s.cs.length (s.cs.flatMap clC) (by rfl) (by exact row_below HS1.out.cr (by repeat (first | (with_reducible exact Below.refl _ _) | (with_reducible refine Below.drew ?_) | (with_reducible refine b_allocN ?_ ?_) | (simp;done) | omega))) ⟨W1.heap.size,0,none⟩ 1 1 [.string (bb n),.int .i64 p.cl] (by rfl) (by rfl) (by exact World.news_of_block (cs:=#[.string (bb n),.int .i64 p.cl]) (t:=47) (fr:=(0,0)) (heap_alloc_new _ _)) (by simp [Value.oneCell']) (by omega) (by unfold maxLen;omega) (by omega) (by simp;omega) (W1.heap.size+1) (by simp) ?_
  intro gg cap1 w5 hown1 hgrow hat1 hlt5
  obtain ⟨⟨hx1,ht5,hb5⟩,hs5,ht6,hb6⟩:=HS1.out.growC (c:=(n,p.cl)) (by exact (by repeat (first | (with_reducible exact Below.refl _ _) | (with_reducible refine Below.drew ?_) | (with_reducible refine b_allocN ?_ ?_) | (simp;done) | omega))) hgrow (by show World.ownsRow _ _ _ _ _ (s.cs ++ [(n,p.cl)]).length _;rw [List.length_append,List.flatMap_append];exact hown1)
  have hfz:=hx1.open 4
  have hc9:=hx1.read.2.1
  have HS5:=Lh hs5
  have HT5:=Lh (HT1.out.trans ht6)
  have HB5:=Lh (HB1.out.trans hb6)
  have HP5:=Lh (ht6.prs HPP.out)
  have HQ5:=Lh (ht6.prs HQP.out)
  have HSB5:=Lh (ht6.blk HSB.out rfl)
  have HBP5:=Lh (ht6.blk HBP.out rfl)
  have m0:w5.cell? ⟨w.heap.size,1,none⟩=some (.string (bb n)):=by rw [blk_cell (ht5.blk HSB.out rfl)];rfl
  have m1:w5.cell? ⟨w.heap.size+1,0,none⟩=some (.int .i64 p.cl):=by rw [blk_cell (ht5.blk HBP.out rfl)];rfl
  clear hs5 ht5 hb5 ht6 hb6 hx1
  refine hK.out _ _ ⟨m0,m1⟩ (fun hHeld=>?_)
  clear hK K
  try simp only [sA,sB,sC]
  refine tk 13 33 (.pointer (some ⟨b,0,none⟩)) ?_ ?_
  ·(intro W hSw;(try dsimp only at hSw);obtain ⟨hs0,hs1⟩:=hSw
    go_simp)
  try simp only [sA,sB,sC]
  refine tk 14 34 (.pointer (some ⟨b,0,none⟩)) ?_ ?_
  ·(intro W hSw;(try dsimp only at hSw);obtain ⟨hs0,hs1⟩:=hSw
    go_simp)
  refine tk 15 35 (.pointer (some ⟨b,4,none⟩)) ?_ ?_
  ·(intro W hSw;(try dsimp only at hSw);obtain ⟨hs0,hs1⟩:=hSw
    go_simp)
  refine wpAnyH_ready (rs:=[16]) (by kernel_rfl) (by simp) ?_
  refine AllReadyH.cons rfl (fun K hK=>?_) AllReadyH.nil
  go_simp
  refine hK.out _ _ ⟨s_set (by simp only;omega) m0,s_set (by simp only;omega) m1⟩ (fun hHeld=>?_)
  clear hK K
  try simp only [sA,sB,sC]
  refine wpAnyH_done (by kernel_rfl) ?_ _
  clear hc9 hfz hc4 hs1 hs2 m0 m1 hHeld
  generalize w5.setCell ⟨b,4,none⟩ (.slice (some ⟨gg,0,none⟩) (s.cs.length+1) cap1)=w6 at HS5 HT5 HB5 HP5 HQ5 HSB5 HBP5 ⊢
  have hBf:Below w6.heap.size w6 w6.drew:=(Below.refl w6.heap.size w6).drew
  have HS6:=Lh (HS5.out.below hBf)
  have HT6:=Lh (HT5.out.trans (TFr.below hBf))
  have HB6:=Lh (HB5.out.trans (hBf.mono HS5.out.base))
  have HP6:=Lh (HP5.out.keep hBf)
  have HQ6:=Lh (HQ5.out.keep hBf)
  have a4:w6.drew.cell? ⟨w.heap.size,4,none⟩=some (.slice bo bd.length bc):=by rw [blk_cell ((TFr.below hBf).blk HSB5.out rfl)];rfl
  have e1:w6.drew.cell? ⟨w.heap.size+1,1,none⟩=some (.slice po p.dn.length pc):=by rw [blk_cell ((TFr.below hBf).blk HBP5.out rfl)];rfl
  have e2:w6.drew.cell? ⟨w.heap.size+1,2,none⟩=some (.slice eo p.de.length ec):=by rw [blk_cell ((TFr.below hBf).blk HBP5.out rfl)];rfl
  have b4:w6.drew.cell? ⟨b,4,none⟩=some (.slice (some ⟨gg,0,none⟩) (s.cs.length+1) cap1):=HS6.out.box.read.2.1
  clear HS5 HT5 HB5 HP5 HQ5 HSB5 HBP5 hBf
  go_wp2_with fail
  refine wp_region_still_tail 15 (by kernel_rfl) (by kernel_rfl) ?_
  change wpStill _ _ w6.drew (fun a'=>wpList _ _ _ _ a' w6.drew) _ _
  generalize w6.drew=w7 at *
  simp only [List.take_succ_cons,List.take_zero,List.drop_succ_cons,List.drop_zero]
  repeat still_step
  refine wpStill_nil ?_
  clear a4 e1 e2 b4
  go_wp2_with fail
  refine (BlkR.use hIH w0 b nm d ⟨s.ns,s.ats,s.cs ++ [(n,p.cl)],s.en,s.e⟩ _ _ ⟨s.cs.length,p.dn,p.de⟩ _ _ S' w7 (Lh HS6.out) (Lh (hO.out.trans HB6.out)) (Lh h0.out) HP6 HQ6 hB ho (Lh (Room.clu (hz.out.le (by omega)) _ _)) (Lh ⟨hga.out.1,hga.out.2⟩) (Lh ⟨hgp.out.1,hgp.out.2⟩) HRB).mono ?_
  rintro e w8 ⟨rfl,x8,hs8,ht8,hb8⟩
  have HM8:Hid (MacOut w0.heap.size b nm d S' w w8):=Lh ⟨x8,hs8,HT6.out.trans ht8,HB6.out.trans hb8⟩
  clear hs8 ht8 hb8
  go_wp2
  refine end0 rfl rfl ?_
  exact ⟨rfl,HM8.out⟩
 ·
  have hc4a:((W1.alloc (.cells #[.string (bb n),.int .i64 p.cl] 47)).drew).cell? ⟨b,4,none⟩=some (.slice co s.cs.length cc):=s_alloc (o:=.cells #[.string (bb n),.int .i64 p.cl] 47) (show W1.cell? _=_ from hc4)
  go_simp
  refine hK.out _ _ ⟨s_alloc (s_drew hs1),s_alloc (s_drew hs2)⟩ (fun hHeld=>?_)
  clear hK K
  try simp only [sA,sB,sC]
  refine wpAnyH_ready (rs:=[5]) (by kernel_rfl) (by simp) ?_
  refine AllReadyH.cons rfl (fun K hK=>?_) AllReadyH.nil
  go_simp
  refine hK.out _ _ ⟨s_alloc (s_drew hs1),s_alloc (s_drew hs2)⟩ (fun hHeld=>?_)
  clear hK K
  try simp only [sA,sB,sC]
  refine wpAnyH_ready (rs:=[12]) (by kernel_rfl) (by simp) ?_
  refine AllReadyH.cons rfl (fun K hK=>?_) AllReadyH.nil
  refine step_append_lies _ (by rfl) _ _ _ (by rfl) w0.heap.size 47 i9 _ 2 24 Tryz.underlying29 hi0 hz0 hz1 hz2 rfl (by omega) (.slice co s.cs.length cc) s.cs.length (s.cs.flatMap clC) (by rfl) (by exact row_below HS1.out.cr (by repeat (first | (with_reducible exact Below.refl _ _) | (with_reducible refine Below.drew ?_) | (with_reducible refine b_allocN ?_ ?_) | (simp;done) | omega))) ⟨W1.heap.size,0,none⟩ 1 1 [.string (bb n),.int .i64 p.cl] (by rfl) (by rfl) (by exact World.news_of_block (cs:=#[.string (bb n),.int .i64 p.cl]) (t:=47) (fr:=(0,0)) (heap_alloc_new _ _)) (by simp [Value.oneCell']) (by omega) (by unfold maxLen;omega) (by omega) (by simp;omega) (W1.heap.size+1) (by simp) ?_
  intro gg cap1 w5 hown1 hgrow hat1 hlt5
  obtain ⟨⟨hx1,ht5,hb5⟩,hs5,ht6,hb6⟩:=HS1.out.growC (c:=(n,p.cl)) (by exact (by repeat (first | (with_reducible exact Below.refl _ _) | (with_reducible refine Below.drew ?_) | (with_reducible refine b_allocN ?_ ?_) | (simp;done) | omega))) hgrow (by show World.ownsRow _ _ _ _ _ (s.cs ++ [(n,p.cl)]).length _;rw [List.length_append,List.flatMap_append];exact hown1)
  have hfz:=hx1.open 4
  have hc9:=hx1.read.2.1
  have HS5:=Lh hs5
  have HT5:=Lh (HT1.out.trans ht6)
  have HB5:=Lh (HB1.out.trans hb6)
  have HP5:=Lh (ht6.prs HPP.out)
  have HQ5:=Lh (ht6.prs HQP.out)
  have HSB5:=Lh (ht6.blk HSB.out rfl)
  have HBP5:=Lh (ht6.blk HBP.out rfl)
  have m0:w5.cell? ⟨w.heap.size,1,none⟩=some (.string (bb n)):=by rw [blk_cell (ht5.blk HSB.out rfl)];rfl
  have m1:w5.cell? ⟨w.heap.size+1,0,none⟩=some (.int .i64 p.cl):=by rw [blk_cell (ht5.blk HBP.out rfl)];rfl
  clear hs5 ht5 hb5 ht6 hb6 hx1
  refine hK.out _ _ ⟨m0,m1⟩ (fun hHeld=>?_)
  clear hK K
  try simp only [sA,sB,sC]
  refine tk 13 33 (.pointer (some ⟨b,0,none⟩)) ?_ ?_
  ·(intro W hSw;(try dsimp only at hSw);obtain ⟨hs0,hs1⟩:=hSw
    go_simp)
  try simp only [sA,sB,sC]
  refine tk 14 34 (.pointer (some ⟨b,0,none⟩)) ?_ ?_
  ·(intro W hSw;(try dsimp only at hSw);obtain ⟨hs0,hs1⟩:=hSw
    go_simp)
  refine tk 15 35 (.pointer (some ⟨b,4,none⟩)) ?_ ?_
  ·(intro W hSw;(try dsimp only at hSw);obtain ⟨hs0,hs1⟩:=hSw
    go_simp)
  refine wpAnyH_ready (rs:=[16]) (by kernel_rfl) (by simp) ?_
  refine AllReadyH.cons rfl (fun K hK=>?_) AllReadyH.nil
  go_simp
  refine hK.out _ _ ⟨s_set (by simp only;omega) m0,s_set (by simp only;omega) m1⟩ (fun hHeld=>?_)
  clear hK K
  try simp only [sA,sB,sC]
  refine wpAnyH_done (by kernel_rfl) ?_ _
  clear hc9 hfz hc4 hs1 hs2 m0 m1 hHeld
  generalize w5.setCell ⟨b,4,none⟩ (.slice (some ⟨gg,0,none⟩) (s.cs.length+1) cap1)=w6 at HS5 HT5 HB5 HP5 HQ5 HSB5 HBP5 ⊢
  have hBf:Below w6.heap.size w6 w6.drew:=(Below.refl w6.heap.size w6).drew
  have HS6:=Lh (HS5.out.below hBf)
  have HT6:=Lh (HT5.out.trans (TFr.below hBf))
  have HB6:=Lh (HB5.out.trans (hBf.mono HS5.out.base))
  have HP6:=Lh (HP5.out.keep hBf)
  have HQ6:=Lh (HQ5.out.keep hBf)
  have a4:w6.drew.cell? ⟨w.heap.size,4,none⟩=some (.slice bo bd.length bc):=by rw [blk_cell ((TFr.below hBf).blk HSB5.out rfl)];rfl
  have e1:w6.drew.cell? ⟨w.heap.size+1,1,none⟩=some (.slice po p.dn.length pc):=by rw [blk_cell ((TFr.below hBf).blk HBP5.out rfl)];rfl
  have e2:w6.drew.cell? ⟨w.heap.size+1,2,none⟩=some (.slice eo p.de.length ec):=by rw [blk_cell ((TFr.below hBf).blk HBP5.out rfl)];rfl
  have b4:w6.drew.cell? ⟨b,4,none⟩=some (.slice (some ⟨gg,0,none⟩) (s.cs.length+1) cap1):=HS6.out.box.read.2.1
  clear HS5 HT5 HB5 HP5 HQ5 HSB5 HBP5 hBf
  go_wp2_with fail
  refine wp_region_still_tail 15 (by kernel_rfl) (by kernel_rfl) ?_
  change wpStill _ _ w6.drew (fun a'=>wpList _ _ _ _ a' w6.drew) _ _
  generalize w6.drew=w7 at *
  simp only [List.take_succ_cons,List.take_zero,List.drop_succ_cons,List.drop_zero]
  repeat still_step
  refine wpStill_nil ?_
  clear a4 e1 e2 b4
  go_wp2_with fail
  refine (BlkR.use hIH w0 b nm d ⟨s.ns,s.ats,s.cs ++ [(n,p.cl)],s.en,s.e⟩ _ _ ⟨s.cs.length,p.dn,p.de⟩ _ _ S' w7 (Lh HS6.out) (Lh (hO.out.trans HB6.out)) (Lh h0.out) HP6 HQ6 hB ho (Lh (Room.clu (hz.out.le (by omega)) _ _)) (Lh ⟨hga.out.1,hga.out.2⟩) (Lh ⟨hgp.out.1,hgp.out.2⟩) HRB).mono ?_
  rintro e w8 ⟨rfl,x8,hs8,ht8,hb8⟩
  have HM8:Hid (MacOut w0.heap.size b nm d S' w w8):=Lh ⟨x8,hs8,HT6.out.trans ht8,HB6.out.trans hb8⟩
  clear hs8 ht8 hb8
  go_wp2
  refine end0 rfl rfl ?_
  exact ⟨rfl,HM8.out⟩
theorem TFr.grow {w0 w w':World}{row:Option Nat}(h:TFr w0 w)(hg:w.grownBy w' row)(hr:∀ k,row=some k→w0.heap.size≤k):TFr w0 w':=by
 refine ⟨hg.os.trans h.os,hg.tape.trans h.tape,hg.output.trans h.output,Nat.le_trans h.size hg.size,fun k o hk hc=>?_⟩
 have h1:=h.block k o hk hc
 rw [hg.block k (heap_lt h1) (fun e=>by have:=hr k e.symm;have:=heap_lt hk;omega)]
 exact h1
theorem tfr_own {W W':World}{B c n:Nat}{t:TypeId}{v:Value}{xs:List Value}(h:W.ownsRow B t c v n xs)(ht:TFr W W')(hc:hot t=false):W'.ownsRow B t c v n xs:=by
 refine ⟨h.1,?_⟩
 rcases h.2 with ⟨a,b⟩ | ⟨k,cap,cur,rfl,h1,h2,h3⟩
 ·exact Or.inl ⟨a,b⟩
 ·exact Or.inr ⟨k,cap,cur,rfl,h1,ht.block _ _ h2 hc,h3⟩
theorem prs_grown {W W':World}{B' c' n':Nat}{u:TypeId}{v v':Value}{ys:List Value}{l:List Pr}(h:PrsT W v l)(hg:W.ownsRow B' u c' v' n' ys)(hw:W.grownBy W' v'.ownBlock)(hu:u≠82):PrsT W' v l:=by
 have key:∀ (g:Nat) (o:Obj),W.heap[g]?=some o→(∃ arr fr,o=.cells arr 82 fr)→W'.heap[g]?=some o:=by
  intro g o ho ⟨arr,fr,hof⟩
  rw [hw.block g (heap_lt ho) ?_]
  ·exact ho
  ·intro e
   rcases hg.2 with ⟨rfl,_⟩ | ⟨k',cap',cur',rfl,_,h2',_⟩
   ·cases e
   ·obtain rfl:g=k':=Option.some.inj e
    rw [ho,hof] at h2'
    cases h2'
    exact hu rfl
 obtain ⟨⟨ao,cap,rfl,hc,hm,hA⟩,hT⟩:=h
 refine ⟨⟨ao,cap,rfl,hc,hm,fun hn=>?_⟩,fun g hg'=>?_⟩
 ·obtain ⟨A,rfl,h2⟩:=hA hn
  obtain ⟨arr,fr,hk⟩:=hT A.block rfl
  have e:W'.heap[A.block]?=W.heap[A.block]?:=by rw [key _ _ hk ⟨_,_,rfl⟩,hk]
  refine ⟨A,rfl,fun i hi=>?_⟩
  obtain ⟨a1,a2,a3⟩:=h2 i hi
  have eb:(A.add (i*2)).block=A.block:=by unfold Addr.add;split <;> rfl
  have e1:W'.heap[(A.add (i*2)).block]?=W.heap[(A.add (i*2)).block]?:=by rw [eb];exact e
  exact ⟨(World.cell?_of_block (a:=A.add (i*2)) e1).trans a1,(World.cell?_of_block (a:=⟨(A.add (i*2)).block,(A.add (i*2)).off+1,none⟩) e1).trans a2,a3⟩
 ·obtain ⟨arr,fr,hk⟩:=hT g hg'
  exact ⟨arr,fr,key _ _ hk ⟨_,_,rfl⟩⟩
def inC (n:Int):List Value:=[.int .i64 n]
abbrev Irow (W:World)(B:Nat)(v:Value)(l:List Int):Prop:=W.ownsRow B 3 1 v l.length (l.flatMap inC)
theorem StB.growI {W W':World}{B b B':Nat}{nm:Nm}{d:Bool}{s:Sta}{x:StV}{v:Value}{l:List Int}(h:StB W B b nm d s x)(hi:Irow W B' v l)(hg:W.grownBy W' v.ownBlock):StB W' B b nm d s x :=
 ⟨h.low,blk_grown h.box hi hg (by decide),row_grown h.nr hi hg (by decide),row_grown h.cr hi hg (by decide),row_grown h.ar hi hg (by decide),row_grown h.er hi hg (by decide),h.al,fun i h1 h2=>prs_grown (h.ap i h1 h2) hi hg (by decide),h.el,fun y hy=>prs_grown (h.ep y hy) hi hg (by decide)⟩
theorem refsS_at {rs:List Pr}{i:Nat}(h:i < rs.length)(s:Sta)(p:Pl):refsS (rs.drop i) s p=if s.e≠0 then s else refsS (rs.drop (i+1)) (mentS s rs[i].1 p) p:=by
 rw [List.drop_eq_getElem_cons h,refsS]
theorem refsI_at {rs:List Pr}{i:Nat}(h:i < rs.length)(s:Sta)(p:Pl):refsI (rs.drop i) s p=if s.e≠0 then [] else mentI s rs[i].1 :: refsI (rs.drop (i+1)) (mentS s rs[i].1 p) p:=by
 rw [List.drop_eq_getElem_cons h,refsI]
theorem refsS_err {s:Sta}{p:Pl}(h:s.e≠0):∀ rs,refsS rs s p=s
 | []=>rfl
 | r :: t=>by rw [refsS,if_pos h]
theorem refsI_err {s:Sta}{p:Pl}(h:s.e≠0):∀ rs,refsI rs s p=[]
 | []=>rfl
 | r :: t=>by rw [refsI,if_pos h]
theorem ment_len (s:Sta)(n:Nm)(p:Pl):(mentS s n p).ns.length≤s.ns.length+1∧(mentS s n p).ats.length≤s.ats.length+1∧(mentS s n p).en=s.en:=by
 unfold mentS
 split
 ·exact ⟨by simp,by simp,rfl⟩
 ·exact ⟨by simp,by simp,rfl⟩
abbrev ed5 (W:World)(P:Nat)(A A2:Addr)(k rc:Nat)(n:Nm)(c:Int)(pv dv:Value):Prop:=W.cell? ⟨P,2,none⟩=some (.slice (some A) k rc)∧W.cell? A2=some (.string (bb n))∧W.cell? ⟨P+1,0,none⟩=some (.int .i64 c)∧W.cell? ⟨P+1,1,none⟩=some pv∧W.cell? ⟨P+1,2,none⟩=some dv
theorem ed5_drew {W:World}{P:Nat}{A A2:Addr}{k rc:Nat}{n:Nm}{c:Int}{pv dv:Value}(h:ed5 W P A A2 k rc n c pv dv):ed5 W.drew P A A2 k rc n c pv dv:=h
theorem ed5_alloc {W:World}{P:Nat}{A A2:Addr}{k rc:Nat}{n:Nm}{c:Int}{pv dv:Value}{o:Obj}(h:ed5 W P A A2 k rc n c pv dv):ed5 (W.alloc o) P A A2 k rc n c pv dv:=⟨s_alloc h.1,s_alloc h.2.1,s_alloc h.2.2.1,s_alloc h.2.2.2.1,s_alloc h.2.2.2.2⟩
theorem ed5_at {W:World}{P:Nat}{A:Addr}{rs ats:List Pr}{rc bn bc tc:Nat}{i:Nat}{n:Nm}{p:Pl}{k:Int}{Z:ByteArray}{uo bo:Option Addr}{pv dv:Value}(hx:blk W P 56 #[.int .i64 k,.string Z,.slice (some A) rs.length rc,.slice uo ats.length tc,.slice bo bn bc])(hb:blk W (P+1) 77 #[.int .i64 p.cl,pv,dv])(hr:Prs W (.slice (some A) rs.length rc) rs)(hi:i < rs.length)(hn:rs[i].1=n):ed5 W P A (A.add (i*2)) rs.length rc n p.cl pv dv:=by
 obtain ⟨ao',cap',e',_,_,hA⟩:=hr
 cases e'
 obtain ⟨A9,e9,hAt⟩:=hA (by omega)
 cases e9
 obtain ⟨q0,-,-,-⟩:=hAt i hi
 rw [hn] at q0
 exact ⟨by rw [blk_cell hx];rfl,q0,by rw [blk_cell hb];rfl,by rw [blk_cell hb];rfl,by rw [blk_cell hb];rfl⟩
theorem info_int:(Tryz.prog.info? 3).map (fun i=>(i.zero,i.size,i.bytes))=some (some (.int .i64 0),1,8):=by kernel_rfl
structure EdR (w wr:World)(B b P:Nat)(nm:Nm)(d:Bool)(s0:Sta)(rs:List Pr)(p:Pl)(xa pa:Array Value)(lv:Value)(i:Nat)(C:List Int)(s:Sta)(x:StV):Prop where
 st:StB wr B b nm d s x
 row:Irow wr (P+2) lv C
 len:C.length=i
 es:refsS (rs.drop i) s p=refsS rs s0 p
 ei:C ++ refsI (rs.drop i) s p=refsI rs s0 p
 nl:s.ns.length≤s0.ns.length+i
 al:s.ats.length≤s0.ats.length+i
 en:s.en=s0.en
 fr:TFr w wr
 bl:Below B w wr
 bx:blk wr P 56 xa
 bp:blk wr (P+1) 77 pa
theorem EdR.next {w1 wr w6 Wd w7:World}{B b P:Nat}{nm:Nm}{d:Bool}{s0:Sta}{rs:List Pr}{p:Pl}{xa pa:Array Value}{lv lv':Value}{i:Nat}{C:List Int}{s:Sta}{x x6:StV}{n:Nm}(h:EdR w1 wr B b P nm d s0 rs p xa pa lv i C s x)(hS6:StB w6 B b nm d (mentS s n p) x6)(hT6:TFr wr w6)(hB6:Below B wr w6)(hbl:Below w6.heap.size w6 Wd)(hg:Wd.grownBy w7 lv.ownBlock)
    (hown:Irow w7 (P+2) lv' (C ++ [mentI s n])) (hi:i < rs.length) (hn:rs[i].1=n) (he:s.e=0) (hP:w1.heap.size=P+2) (hBP:B≤P):EdR w1 w7 B b P nm d s0 rs p xa pa lv' (i+1) (C ++ [mentI s n]) (mentS s n p) x6:=by
 have row6:Irow w6 (P+2) lv C:=tfr_own h.row hT6 rfl
 have rowd:Irow Wd (P+2) lv C:=row_below row6 hbl
 have hTd:TFr w1 Wd:=(h.fr.trans hT6).trans (TFr.below hbl)
 have hT7:TFr w1 w7:=TFr.grow hTd hg fun k hk=>by rw [hP];exact (World.ownsRow.lt rowd k hk).1
 have hsd:P+2≤Wd.heap.size:=by rw [← hP];exact hTd.size
 have hB7:Below B w1 w7:=((h.bl.trans hB6).trans (hbl.mono hS6.base)).trans ((below_row rowd hg hsd).mono (by omega))
 have hl:=ment_len s n p
 refine ⟨(hS6.below hbl).growI rowd hg,hown,by rw [List.length_append,h.len];rfl,?_,?_,by have:=h.nl;omega,by have:=h.al;omega,hl.2.2.trans h.en,hT7,hB7,?_,?_⟩
 ·rw [← h.es,refsS_at hi,if_neg (by rw [he];simp),hn]
 ·rw [← h.ei,refsI_at hi,if_neg (by rw [he];simp),hn,List.append_assoc];rfl
 ·exact blk_grown ((TFr.below hbl).blk (hT6.blk h.bx rfl) rfl) rowd hg (by decide)
 ·exact blk_grown ((TFr.below hbl).blk (hT6.blk h.bp rfl) rfl) rowd hg (by decide)
theorem refs_len {p:Pl}:∀ (rs:List Pr) (s:Sta),(refsS rs s p).e=0→(refsI rs s p).length=rs.length
 | [],_,_=>rfl
 | r :: t,s,h=>by
  rw [refsS] at h
  rw [refsI]
  by_cases e:s.e=0
  ·rw [if_neg (by rw [e];simp)] at h ⊢
   rw [List.length_cons,List.length_cons,refs_len t _ h]
  ·rw [if_pos e] at h
   exact absurd h e
theorem refsI_le:∀ (rs:List Pr) (s:Sta) (p:Pl),(refsI rs s p).length≤rs.length
 | [],_,_=>Nat.le_refl _
 | r :: t,s,p=>by
  rw [refsI]
  split
  ·exact Nat.zero_le _
  ·rw [List.length_cons,List.length_cons];have:=refsI_le t (mentS s r.1 p) p;omega
theorem endsL_lenE (m:List Pr):∀ (l:List Int) (rs:List Pr),l.length=rs.length→(endsL l rs m).length=l.length - 1
 | [],[],_=>rfl
 | [_],[_],_=>rfl
 | a :: b :: t,r :: q :: u,h=>by
  rw [endsL,List.length_cons,endsL_lenE m (b :: t) (q :: u) (by simpa using h)]
  simp
theorem endsL_get (m:List Pr):∀ (l:List Int) (rs:List Pr) (k:Nat) (h:l.length=rs.length) (h1:k+1 < l.length) (h2:k < (endsL l rs m).length),(endsL l rs m)[k]=⟨l[k],l[k+1],(rs[k]'(by omega)).2,(rs[k+1]'(by omega)).2,m⟩
 | a :: b :: t,r :: q :: u,k,h,h1,h2=>by
  cases k with
  | zero=>rfl
  | succ k =>
   simp only [endsL,List.getElem_cons_succ]
   exact endsL_get m (b :: t) (q :: u) k (by simpa using h) (by simpa using h1) (by
    rw [endsL_lenE m (b :: t) (q :: u) (by simpa using h)];simpa using h1)
 | [],_,k,_,h1,_=>absurd h1 (by simp)
 | [_],_,k,_,h1,_=>absurd h1 (by simp)
 | _ :: _ :: _,[],_,h,_,_=>absurd h (by simp)
 | _ :: _ :: _,[_],_,h,_,_=>absurd h (by simp)
theorem endsL_take {m:List Pr}{l:List Int}{rs:List Pr}{k:Nat}(h:l.length=rs.length)(h1:k+1 < l.length):(endsL l rs m).take (k+1)=(endsL l rs m).take k ++ [⟨l[k],l[k+1],(rs[k]'(by omega)).2,(rs[k+1]'(by omega)).2,m⟩]:=by
 have h2:k < (endsL l rs m).length:=by rw [endsL_lenE m l rs h];omega
 rw [List.take_succ_eq_append_getElem h2,endsL_get m l rs k h h1 h2]
abbrev ed9 (W:World)(P:Nat)(A:Addr)(G:Nat)(n rc:Nat)(av ev:Value)(j:Nat)(a c:Int)(fp tp:Nm):Prop:=W.cell? ⟨P,2,none⟩=some (.slice (some A) n rc)∧W.cell? ⟨P,3,none⟩=some av∧W.cell? ⟨P+1,2,none⟩=some ev∧W.cell? ⟨G,j,none⟩=some (.int .i64 a)∧W.cell? ⟨G,j+1,none⟩=some (.int .i64 c)∧W.cell? ⟨(A.add (j*2)).block,(A.add (j*2)).off+1,none⟩=some (.string (bb fp))∧W.cell? ⟨(A.add ((j+1)*2)).block,(A.add ((j+1)*2)).off+1,none⟩=some (.string (bb tp))
theorem ed9_drew {W:World}{P:Nat}{A:Addr}{G:Nat}{n rc:Nat}{av ev:Value}{j:Nat}{a c:Int}{fp tp:Nm}(h:ed9 W P A G n rc av ev j a c fp tp):ed9 W.drew P A G n rc av ev j a c fp tp:=h
theorem ed9_alloc {W:World}{P:Nat}{A:Addr}{G:Nat}{n rc:Nat}{av ev:Value}{j:Nat}{a c:Int}{fp tp:Nm}{o:Obj}(h:ed9 W P A G n rc av ev j a c fp tp):ed9 (W.alloc o) P A G n rc av ev j a c fp tp:=⟨s_alloc h.1,s_alloc h.2.1,s_alloc h.2.2.1,s_alloc h.2.2.2.1,s_alloc h.2.2.2.2.1,s_alloc h.2.2.2.2.2.1,s_alloc h.2.2.2.2.2.2⟩
theorem row_int {W:World}{B:Nat}{ao:Option Addr}{n cap:Nat}{l:List Int}(h:Irow W B (.slice ao n cap) l){k:Nat}(hk:k < l.length):∃ G,ao=some ⟨G,0,none⟩∧∀ k (h:k < l.length),W.cell? ⟨G,k,none⟩=some (.int .i64 l[k]):=by
 obtain ⟨g,cap',arr,e,_,hg,_,_,h3⟩:=own_blk h (by omega)
 cases e
 refine ⟨_,rfl,fun k hk=>?_⟩
 rw [blk_cell hg,h3 _ (by omega)]
 have:=flat_get inC 1 (fun _=>rfl) l k 0 hk (by decide)
 rw [Nat.add_zero,Nat.mul_one] at this
 rw [this];rfl
theorem ed9_at {W:World}{P B:Nat}{A:Addr}{G:Nat}{rs:List Pr}{rc bn bc n cap:Nat}{j:Nat}{p:Pl}{k:Int}{Z:ByteArray}{bo:Option Addr}{av dv ev:Value}{L:List Int}{a c:Int}{fp tp:Nm}(hx:blk W P 56 #[.int .i64 k,.string Z,.slice (some A) rs.length rc,av,.slice bo bn bc])(hb:blk W (P+1) 77 #[.int .i64 p.cl,dv,ev])(hr:Prs W (.slice (some A) rs.length rc) rs)(hL:Irow W B (.slice (some ⟨G,0,none⟩) n cap) L)(hj:j+1 < L.length)(hjr:j+1 < rs.length)
    (ha:L[j]=a) (hc:L[j+1]=c) (hf:(rs[j]'(by omega)).2=fp) (ht:rs[j+1].2=tp):ed9 W P A G rs.length rc av ev j a c fp tp:=by
 obtain ⟨ao',cap',e',_,_,hA⟩:=hr
 cases e'
 obtain ⟨A9,e9,hAt⟩:=hA (by omega)
 cases e9
 obtain ⟨-,q1,-,-⟩:=hAt j (by omega)
 obtain ⟨-,q2,-,-⟩:=hAt (j+1) hjr
 obtain ⟨G9,eg,hg⟩:=row_int hL hj
 cases eg
 rw [hf] at q1
 rw [ht] at q2
 exact ⟨by rw [blk_cell hx];rfl,by rw [blk_cell hx];rfl,by rw [blk_cell hb];rfl,by rw [hg j (by omega),ha],by rw [hg (j+1) hj,hc],q1,q2⟩
theorem info_end:(Tryz.prog.info? 126).map (fun i=>(i.zero,i.size,i.bytes))=some (some (.agg #[.int .i64 0,.int .i64 0,.string ⟨#[]⟩,.string ⟨#[]⟩,.slice none 0 0]),5,72):=by kernel_rfl
structure EdQ (w wr:World)(B b P:Nat)(nm:Nm)(d:Bool)(s2:Sta)(E:List En)(xa pa:Array Value)(lv:Value)(L:List Int)(k:Nat)(x:StV):Prop where
 st:StB wr B b nm d ⟨s2.ns,s2.ats,s2.cs,s2.en ++ E.take (k - 1),s2.e⟩ x
 row:Irow wr (P+2) lv L
 fr:TFr w wr
 bl:Below B w wr
 bx:blk wr P 56 xa
 bp:blk wr (P+1) 77 pa
theorem EdQ.next {w wr w6 Wd w7:World}{B b P:Nat}{nm:Nm}{d:Bool}{s2:Sta}{E:List En}{xa pa:Array Value}{lv:Value}{L:List Int}{k:Nat}{x:StV}{e:En}{ev' v:Value}(h:EdQ w wr B b P nm d s2 E xa pa lv L (k+1) x)(hb:Below wr.heap.size wr w6)(hbl:Below w6.heap.size w6 Wd)(hg:Wd.grownBy w7 x.ev.ownBlock)(ho:Erow w7 B ev' (x.evs ++ [(e,v)]))(hv:PrsT w6 v e.ats)(hE:E.take (k+1)=E.take k ++ [e]) :
    (stb w7 b nm d x.nv x.cv x.av x.ev s2.e∧TFr wr w7∧Below B wr w7)∧EdQ w (w7.setCell ⟨b,6,none⟩ ev') B b P nm d s2 E xa pa lv L (k+2) ⟨x.nv,x.cv,x.av,ev',x.avs,x.evs ++ [(e,v)]⟩:=by
 have h6:=h.st.below hb
 obtain ⟨⟨m1,m2,m3⟩,m4,m5,m6⟩:=h6.growE hbl hg ho (hv.keep hbl)
 have t6:TFr wr w7:=(TFr.below hb).trans m2
 have b6:Below B wr w7:=(hb.mono h.st.base).trans m3
 have t7:TFr wr (w7.setCell ⟨b,6,none⟩ ev'):=(TFr.below hb).trans m5
 have b7:Below B wr (w7.setCell ⟨b,6,none⟩ ev'):=(hb.mono h.st.base).trans m6
 refine ⟨⟨m1,t6,b6⟩,⟨?_,tfr_own h.row t7 rfl,h.fr.trans t7,h.bl.trans b7,t7.blk h.bx rfl,t7.blk h.bp rfl⟩⟩
 have e1:k+2 - 1=k+1:=rfl
 rw [e1,hE,← List.append_assoc]
 exact m4
end Go.Proofs.YtcdoicgbjoikkaaGreatDoor.nor
