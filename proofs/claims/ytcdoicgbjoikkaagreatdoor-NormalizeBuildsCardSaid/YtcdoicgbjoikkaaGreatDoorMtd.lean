/-
  What Valid and Count of the reference of layer 7 return. Condition: a tree of at most 600 statements in memory.
  Slices of names in memory, as they are read and as a row that a loop appends to; has and the law's same. No condition.
  What Clusters of the reference of layer 7 returns. Condition: a tree of at most 600 statements in memory.
  What Names of the reference of layer 7 returns. Condition: a tree of at most 600 statements in memory, at most 40 refs in each.
  What Equal of the reference of layer 7 returns. Condition: trees in memory.
  What Preorder and Valid of the reference of layer 7 return, for trees of up to 10^12 statements. Conditions: a tree in memory; a small level.
-/
import Derived.Test.YtcdoicgbjoikkaaGreatDoorMtc
namespace Go.Proofs.YtcdoicgbjoikkaaGreatDoor.tre
open Go.RowKit lex
theorem flat_at {w:World}{B g cap:Nat}{F:List FV}(h:w.ownsRow B 98 6 (.slice (some ⟨g,0,none⟩) F.length cap) F.length (flatF F)){i:Nat}(hi:i < F.length) :
    w.cell? ((⟨g,0,none⟩:Addr).add (i*6))=some (.int .i64 F[i].s.kind)∧w.cell? ⟨((⟨g,0,none⟩:Addr).add (i*6)).block,((⟨g,0,none⟩:Addr).add (i*6)).off+1,none⟩=some (.string (bb F[i].s.name)) ∧
    w.cell? ⟨((⟨g,0,none⟩:Addr).add (i*6)).block,((⟨g,0,none⟩:Addr).add (i*6)).off+2,none⟩=some F[i].rv∧w.cell? ⟨((⟨g,0,none⟩:Addr).add (i*6)).block,((⟨g,0,none⟩:Addr).add (i*6)).off+3,none⟩=some F[i].av ∧
    w.cell? ⟨((⟨g,0,none⟩:Addr).add (i*6)).block,((⟨g,0,none⟩:Addr).add (i*6)).off+4,none⟩=some F[i].bv∧w.cell? ⟨((⟨g,0,none⟩:Addr).add (i*6)).block,((⟨g,0,none⟩:Addr).add (i*6)).off+5,none⟩=some (.int .i64 F[i].lv):=by
 have c:=World.ownsRow.cells h (g:=g) rfl
 have eb:((⟨g,0,none⟩:Addr).add (i*6)).block=g:=by unfold Addr.add;split <;> rfl
 have eo:((⟨g,0,none⟩:Addr).add (i*6)).off=i*6:=by
  unfold Addr.add;split
  ·simp;omega
  ·simp
 have key:∀ j u,(cellsF F[i])[j]?=some u→0 < j→w.cell? ⟨g,i*6+j,none⟩=some u:=by
  intro j u hj h0
  have:=c _ _ (flatF_get F i hi j u hj)
  rw [add_one_of _ _ (by omega)] at this
  simpa using this
 rw [eb,eo]
 refine ⟨?_,key 1 _ rfl (by decide),key 2 _ rfl (by decide),key 3 _ rfl (by decide),key 4 _ rfl (by decide),key 5 _ rfl (by decide)⟩
 have:=c _ _ (flatF_get F i hi 0 _ rfl)
 simpa using this
theorem flat_at2 {w:World}{B g cap:Nat}{F:List FV}(h:w.ownsRow B 98 6 (.slice (some ⟨g,0,none⟩) F.length cap) F.length (flatF F)){i:Nat}(hi:i < F.length) :
    w.cell? ⟨g,i*6,none⟩=some (.int .i64 F[i].s.kind)∧w.cell? ⟨g,i*6+1,none⟩=some (.string (bb F[i].s.name))∧w.cell? ⟨g,i*6+2,none⟩=some F[i].rv ∧
    w.cell? ⟨g,i*6+3,none⟩=some F[i].av∧w.cell? ⟨g,i*6+4,none⟩=some F[i].bv∧w.cell? ⟨g,i*6+5,none⟩=some (.int .i64 F[i].lv):=by
 have c:=World.ownsRow.cells h (g:=g) rfl
 have key:∀ j u,(cellsF F[i])[j]?=some u→0 < j→w.cell? ⟨g,i*6+j,none⟩=some u:=by
  intro j u hj h0
  have:=c _ _ (flatF_get F i hi j u hj)
  rw [add_one_of _ _ (by omega)] at this
  simpa using this
 obtain ⟨h0,-⟩:=flat_at h hi
 refine ⟨?_,key 1 _ rfl (by decide),key 2 _ rfl (by decide),key 3 _ rfl (by decide),key 4 _ rfl (by decide),key 5 _ rfl (by decide)⟩
 rw [← h0];unfold Addr.add;split
 ·rename_i hz;have:i=0:=by (try simp at hz);omega
  subst this;rfl
 ·simp
theorem fin_len {F:List FV}{l:List St}{lv:Int}(h:F.map (fun f=>(f.s,f.lv))=preL l lv):F.length=cnt l:=by
 have:=congrArg List.length h
 rw [List.length_map] at this
 rw [this];exact pre_len.2 _ _ _
theorem firstE_drop {L:List (St × Int)}{k:Nat}(h:k < L.length):firstE (L.drop k)=if staE L[k].1 L[k].2≠0 then staE L[k].1 L[k].2 else firstE (L.drop (k+1)):=by
 rw [List.drop_eq_getElem_cons h,firstE]
theorem fin_get {F:List FV}{L:List (St × Int)}(h:F.map (fun f=>(f.s,f.lv))=L){k:Nat}(hk:k < F.length):∃ hk2:k < L.length,L[k]=(F[k].s,F[k].lv):=by
 subst h
 exact ⟨by rw [List.length_map];exact hk,by rw [List.getElem_map]⟩
def at3 (w:World)(b:Nat)(x:ByteArray)(d:Bool)(bv:Value):Prop:=w.cell? ⟨b,0,none⟩=some (.string x)∧w.cell? ⟨b,1,none⟩=some (.bool d)∧w.cell? ⟨b,2,none⟩=some bv
theorem at3_new (w:World)(x:ByteArray)(d:Bool)(bv:Value)(t:TypeId):at3 (w.alloc (.cells #[.string x,.bool d,bv] t)) w.heap.size x d bv:=by
 refine ⟨?_,?_,?_⟩ <;> go_simp
theorem at3_keep {w1 w2:World}{b:Nat}{x:ByteArray}{d:Bool}{bv:Value}(h:at3 w1 b x d bv)(h2:Below w1.heap.size w1 w2):at3 w2 b x d bv:=⟨cell_keep h2 h.1,cell_keep h2 h.2.1,cell_keep h2 h.2.2⟩
def Nl (w:World)(v:Value)(l:List (List UInt8)):Prop:=∃ (ao:Option Addr) (cap:Nat),v=.slice ao l.length cap∧l.length≤cap∧cap≤maxLen∧(0 < l.length→∃ A,ao=some A∧∀ i (h:i < l.length),w.cell? (A.add i)=some (.string (bb l[i])))
theorem Nl.keep {w1 w2:World}{v:Value}{l:List (List UInt8)}(h:Nl w1 v l)(hb:Below w1.heap.size w1 w2):Nl w2 v l:=by
 obtain ⟨ao,cap,rfl,hc,hm,hA⟩:=h
 exact ⟨ao,cap,rfl,hc,hm,fun hn=>by obtain ⟨A,rfl,h2⟩:=hA hn;exact ⟨A,rfl,fun i hi=>cell_later' hb (h2 i hi)⟩⟩
theorem Nl.get {w:World}{ao:Option Addr}{n cap:Nat}{l:List (List UInt8)}(h:Nl w (.slice ao n cap) l){i:Nat}(hi:i < l.length):∃ A,ao=some A∧w.cell? (A.add i)=some (.string (bb l[i])):=by
 obtain ⟨ao',cap',e,_,_,hA⟩:=h
 cases e
 obtain ⟨A,rfl,h2⟩:=hA (by omega)
 exact ⟨A,rfl,h2 i hi⟩
def nmC (l:List (List UInt8)):List Value:=l.map fun x=>.string (bb x)
def Nrow (w:World)(B:Nat)(v:Value)(l:List (List UInt8)):Prop:=w.ownsRow B 9 1 v l.length (nmC l)
theorem Nrow.nl {w:World}{B:Nat}{v:Value}{l:List (List UInt8)}(h:Nrow w B v l):Nl w v l:=by
 have h0:=h
 rcases h.2 with ⟨rfl,hz⟩ | ⟨g,cap,cur,rfl,hg,hc,hcap,hm,h3⟩
 ·obtain rfl:l=[]:=List.eq_nil_of_length_eq_zero hz
  exact ⟨none,0,rfl,Nat.le_refl _,by decide,fun h=>absurd h (by simp)⟩
 ·refine ⟨some ⟨g,0,none⟩,cap,rfl,hcap,hm,fun _=>⟨_,rfl,fun i hi=>?_⟩⟩
  have c:=World.ownsRow.cells h0 (g:=g) rfl
  exact c i _ (by unfold nmC;rw [List.getElem?_map,List.getElem?_eq_getElem hi];rfl)
theorem info_s1:(Tryz.prog.info? 9).map (fun i=>(i.zero,i.size,i.bytes))=some (some (.string ⟨#[]⟩),1,16):=by kernel_rfl
theorem info_str1:∃ i,Tryz.prog.info? 9=some i∧i.zero=some (.string ⟨#[]⟩)∧i.size=1∧i.bytes=16:=by
 have h:=info_s1
 cases hq:Tryz.prog.info? 9 with
 | none=>rw [hq] at h;cases h
 | some i =>
  rw [hq] at h
  simp only [Option.map_some,Option.some.injEq,Prod.mk.injEq] at h
  exact ⟨i,rfl,h.1,h.2.1,h.2.2⟩
theorem own_far {w:World}{B1 B2 s1 s2 n1 n2:Nat}{e1 e2:TypeId}{v1 v2:Value}{xs1 xs2:List Value}(h1:w.ownsRow B1 e1 s1 v1 n1 xs1)(h2:w.ownsRow B2 e2 s2 v2 n2 xs2)(he:e1≠e2):v1.ownBlock=none∨v1.ownBlock≠v2.ownBlock:=by
 rcases h1.2 with ⟨rfl,_⟩ | ⟨g,_,cur,rfl,_,hg,_⟩
 ·exact Or.inl rfl
 ·refine Or.inr fun e=>?_
  rcases h2.2 with ⟨rfl,_⟩ | ⟨g2,_,cur2,rfl,_,hg2,_⟩
  ·cases e
  ·have e3:g=g2:=Option.some.inj e
   rw [← e3,hg] at hg2
   injection hg2 with hg2
   injection hg2 with _ h5 _
   exact he h5
theorem ks {W w:World}{p0 p1 p2 p3 p4 q0 q1 q2 q3 q4:Addr}{u0 u1 u2 u3 u4 v0 v1 v2 v3 v4:Value}(a0:W.cell? p0=some u0)(a1:W.cell? p1=some u1)(a2:W.cell? p2=some u2)(a3:W.cell? p3=some u3)(a4:W.cell? p4=some u4)
    (b0:W.cell? q0=some v0) (b1:W.cell? q1=some v1) (b2:W.cell? q2=some v2) (b3:W.cell? q3=some v3) (b4:W.cell? q4=some v4) (h:Below W.heap.size W w) :
    Below W.heap.size W w∧w.cell? p0=some u0∧w.cell? p1=some u1∧w.cell? p2=some u2∧w.cell? p3=some u3∧w.cell? p4=some u4∧w.cell? q0=some v0∧w.cell? q1=some v1∧w.cell? q2=some v2∧w.cell? q3=some v3∧w.cell? q4=some v4 :=
 ⟨h,cell_later' h a0,cell_later' h a1,cell_later' h a2,cell_later' h a3,cell_later' h a4,cell_later' h b0,cell_later' h b1,cell_later' h b2,cell_later' h b3,cell_later' h b4⟩
theorem guard_att:Tryz.prog.eqGuardType Tryz.prog.depth 82=false:=by kernel_rfl
def PreHuge (l:List St):Prop:=∀ (w0 w:World) (v:Value) (lv:Int),Below w0.heap.size w0 w→Sts w0 v l→cnt l≤1000000000000→0≤lv→lv+cnt l≤2000000000000 →
 Calls Tryz.prog 47 #[v,.int .i64 lv] w (PreOut w0 l lv w)
set_option maxRecDepth 100000 in
set_option maxHeartbeats 8000000 in
theorem huge_step (l:List St)(ih:∀ s∈l,PreHuge s.body):PreHuge l:=by
 intro w0 w v lv hw hs hcn h0 h1
 obtain ⟨i0,hi,hz0,hz1,hz2⟩:=info_flat6
 have hs':=hs
 obtain ⟨ao,cap,rfl,hc,hm,_⟩:=hs'
 have HS:=Lh hs
 have IH:=Lh ih
 unfold maxLen at hm
 have hlm:l.length≤9223372036854775807:=by omega
 clear hs ih hc hm
 go_enter Tryz.func47,Tryz.ntmps47
 go_wp2_with fail
 go_loopw [5,6] (fun out iv wr=>∃ (g oc:Nat) (F:List FV) (k:Nat),out=.slice (some ⟨g,0,none⟩) F.length oc∧iv=.int .i64 k∧k≤l.length∧wr.ownsRow w.heap.size 98 6 (.slice (some ⟨g,0,none⟩) F.length oc) F.length (flatF F) ∧
  F.map (fun f=>(f.s,f.lv))=preL (l.take k) lv∧(∀ f∈F,fvOk w0 f)∧Below w.heap.size w wr) (fun _ iv _=>l.length - (intOf iv).toNat)
 case atStart =>
  exact ⟨w.heap.size,0,[],0,rfl,rfl,Nat.zero_le _,World.ownsRow_lit (e:=98) (size:=6) w #[] 0 (Nat.le_refl _) (by decide) rfl,rfl,fun f hf=>(by cases hf),al1 ..⟩
 case round =>
  obtain ⟨g,oc,F,k,rfl,rfl,hk,hown,hF,hfv,hB⟩:=hrel
  rename World=>wr
  have HO:=Lh hown
  have HF:=Lh hF
  have HFV:=Lh hfv
  have hsz:=hB.size
  clear hown hF hfv
  have hFl:F.length=cnt (l.take k):=by have:=congrArg List.length HF.out;rw [List.length_map] at this;rw [this];exact pre_len.2 _ _ _
  by_cases hlt:k < l.length
  ·obtain ⟨hct,htk⟩:=cnt_take hlt
   have hB0:Below w0.heap.size w0 wr:=hw.trans (hB.mono hw.size)
   obtain ⟨A,rfl,hst0⟩:=HS.out.get hlt
   have hst:=(st_keep hB0).1 _ _ hst0
   obtain ⟨c0,c1,hnl,⟨rv,c2,hrv⟩,⟨av,c3,hav⟩,bv,c4,hbv⟩:=(stAt_eq _ _ _).1 hst
   obtain ⟨_,_,_,⟨rv',c2',hrv0⟩,⟨av',c3',hav0⟩,bv',c4',hbv0⟩:=(stAt_eq _ _ _).1 hst0
   obtain rfl:rv'=rv:=Option.some.inj ((cell_later' hB0 c2').symm.trans c2)
   obtain rfl:av'=av:=Option.some.inj ((cell_later' hB0 c3').symm.trans c3)
   obtain rfl:bv'=bv:=Option.some.inj ((cell_later' hB0 c4').symm.trans c4)
   have HNF:Hid (fvOk w0 ⟨l[k],lv,rv',av',bv'⟩):=Lh ⟨hnl,hrv0,hav0,hbv0⟩
   have HBV0:=Lh hbv0
   have hone:=cellsF_one HNF.out
   have HONE:=Lh hone
   have hPre:=IH.out l[k] (List.getElem_mem hlt)
   have HPRE:=Lh hPre
   have HPL:Hid (preL (l.take (k+1)) lv=preL (l.take k) lv ++ ((l[k],lv) :: preL l[k].body (if l[k].kind=5 then lv+1 else lv))):=Lh (by
    rw [htk,preL_app,preL_cons,preL_nil,List.append_nil,preS_eq])
   have k0:=((stAt_eq _ _ _).1 hst0).1
   have k4:=c4'
   clear hrv hav hbv hrv0 hav0 hbv0 hst hst0 c2' c3' c4' hone hPre htk
   have z0:(0:Int)≤(k:Int):=by omega
   have z1:(k:Int) < (l.length:Int):=by omega
   obtain ⟨s,hse⟩:∃ s,l[k]=s:=⟨_,rfl⟩
   rw [hse] at c0 c1 HNF HBV0 HONE HPRE HPL hct hnl k0
   clear hse
   have hFb:F.length+1+cnt s.body≤1000000000000:=by omega
   have hlvb:lv+1+cnt s.body≤2000000000000:=by omega
   have hB1:=below_keep (al1 wr (.cells #[.int .i64 s.kind,.string (bb s.name),rv',av',bv',.int .i64 lv] 98)) hB
   have HK0:=Lh k0
   have HK4:=Lh k4
   clear k0 k4 hFl hct
   obtain ⟨lw,hlw⟩:∃ q:Int,(if s.kind=5 then lv+1 else lv)=q:=⟨_,rfl⟩
   rw [hlw] at HPL
   have hl0:0≤lw:=by rw [← hlw];split <;> omega
   have hl1:lw+cnt s.body≤2000000000000:=by rw [← hlw];split <;> omega
   have hway:((s.kind == 5)=true∧lw=lv+1)∨((s.kind == 5)=false∧lv=lw):=by
    by_cases h5:s.kind=5
    ·rw [if_pos h5] at hlw;exact Or.inl ⟨by rw [beq_iff_eq];exact h5,hlw.symm⟩
    ·rw [if_neg h5] at hlw;exact Or.inr ⟨by rw [beq_eq_false_iff_ne];exact h5,hlw⟩
   clear hlw
   rcases hway with ⟨b5,rfl⟩ | ⟨b5,rfl⟩
   all_goals
    go_wp2_with (first
     | (at_builtin;refine wpList_append_own _ rfl (.tmp 15) (.tmp 22) 95 rfl w.heap.size 98 i0 (.agg #[.int .i64 0,.string ⟨#[]⟩,.slice none 0 0,.slice none 0 0,.slice none 0 0,.int .i64 0]) 6 104 Tryz.underlying95 hi hz0 hz1 hz2 rfl (by decide) _ _ _ rfl (World.ownsRow.alloc HO.out _) ⟨wr.heap.size,0,none⟩ 1 1 [.int .i64 s.kind,.string (bb s.name),rv',av',bv',.int .i64 lv] rfl rfl (cell6_new _ _ _ _ _ _ _ _) (fun u hu=>HONE.out u hu) (by unfold maxLen;omega) (by omega) (by simp;omega) ?_;intro v3 w3 hown3 hgrow3 hnil3;have hB3:=(hB.alloc hsz (.cells #[.int .i64 s.kind,.string (bb s.name),rv',av',bv',.int .i64 lv] 98)).grown hgrow3 (by simp;omega) (fun q hq=>(World.ownsRow.lt HO.out q hq).1);have hs3:=hB3.size;have hBw:=hw.trans (hB3.mono hw.size);have d0:=cell_later' hBw HK0.out;have d4:=cell_later' hBw HK4.out;have HO3:=Lh hown3;clear hown3 hgrow3 hnil3)
     | (go_at_call 47;refine (HPRE.out w0 w3 bv' _ hBw HBV0.out (by omega) hl0 hl1).mono ?_;rintro e w4 ⟨g4,oc4,G,rfl,hown4,hG,hGv,hb4⟩;have HO4:=Lh (own_keep HO3.out hb4);have HG:=Lh hG;have HGV:=Lh hGv;have HOG:=Lh hown4;have hB4:=below_keep hb4 hB3;have hs4:=hB4.size;have hGl:G.length=cnt s.body:=(by have:=congrArg List.length hG;rw [List.length_map] at this;rw [this];exact pre_len.2 _ _ _);have hGb:F.length+1+G.length≤1000000000000:=(by omega);clear hown4 hG hGv hb4 hGl)
     | (at_builtin;refine wpList_append_own _ rfl (.tmp 33) (.tmp 40) 95 rfl w.heap.size 98 i0 (.agg #[.int .i64 0,.string ⟨#[]⟩,.slice none 0 0,.slice none 0 0,.slice none 0 0,.int .i64 0]) 6 104 Tryz.underlying95 hi hz0 hz1 hz2 rfl (by decide) _ _ _ rfl HO4.out ⟨g4,0,none⟩ G.length oc4 (flatF G) rfl (flatF_length G) (World.ownsRow.cells HOG.out (g:=g4) rfl) (flatF_one' HGV.out) (by unfold maxLen;omega) (by omega) hs4 ?_;intro v5 w5 hown5 hgrow5 hnil5;have hB5:=hB4.grown hgrow5 hs4 (fun q hq=>(World.ownsRow.lt HO4.out q hq).1);have HO5:=Lh hown5;clear hown5 hgrow5 hnil5))
    have hcat:flatF F ++ [.int .i64 s.kind,.string (bb s.name),rv',av',bv',.int .i64 lv] ++ flatF G=flatF (F ++ [(⟨s,lv,rv',av',bv'⟩:FV)] ++ G):=by rw [flatF_app,flatF_app,flatF_one];rfl
    have hlen:(F ++ [(⟨s,lv,rv',av',bv'⟩:FV)] ++ G).length=F.length+1+G.length:=by simp;omega
    have hO5:=HO5.out
    rw [hcat,← hlen] at hO5
    obtain ⟨g5,oc5,rfl⟩:∃ g5 oc5,v5=.slice (some ⟨g5,0,none⟩) (F ++ [(⟨s,lv,rv',av',bv'⟩:FV)] ++ G).length oc5:=by
     rcases hO5.2 with ⟨_,h0⟩ | ⟨g5,oc5,_,rfl,_⟩
     ·rw [hlen] at h0;omega
     ·exact ⟨g5,oc5,rfl⟩
    have HO6:=Lh hO5
    clear HO5 hO5 hcat hlen
    go_roundw
    case rel=>exact ⟨g5,oc5,F ++ [(⟨s,lv,rv',av',bv'⟩:FV)] ++ G,k+1,rfl,by go_num,by omega,HO6.out,by rw [List.map_append,List.map_append,HF.out,HG.out,HPL.out,List.append_assoc];rfl,fun f hf=>by
     rcases List.mem_append.1 hf with hf | hf
     ·rcases List.mem_append.1 hf with hf | hf
      ·exact HFV.out f hf
      ·rw [List.mem_singleton.1 hf];exact HNF.out
     ·exact HGV.out f hf,hB5⟩
    case measure=>simp [intOf];omega
  ·obtain rfl:k=l.length:=by omega
   have HL:Hid (l.take l.length=l):=Lh (List.take_length)
   go_wp2
   go_ret
   exact ⟨g,oc,F,rfl,HO.out,by rw [HF.out,HL.out],HFV.out,hB⟩
theorem pre_huge (l:List St):PreHuge l:=lst_ind huge_step l
set_option maxRecDepth 100000 in
set_option maxHeartbeats 8000000 in
theorem rvalid_huge (v:Value)(T:Tr)(R:Int)(w:World)(hT:Hid (TrV w v T))(hc:cnt T.body≤1000000000000)(hR:Hid (validT T=R)) :
    Calls Tryz.prog 28 #[v] w fun e w'=>e=.returned (.int .i64 R)∧Below w.heap.size w w':=by
 obtain ⟨bv,rfl,hnl,hs⟩:=hT.out
 have hr:=hR.out
 unfold validT at hr
 obtain ⟨X,hX⟩:∃ X,bb T.name=X:=⟨_,rfl⟩
 have hXd:X.data.toList=T.name:=by rw [← hX]
 have HZ:=Lh (show X.size≤maxLen by rw [← b_size,hXd];exact hnl)
 obtain ⟨nm,hnm⟩:∃ q,isNm T.name=q:=⟨_,rfl⟩
 have HNM:Hid (isNm X.data.toList=nm):=Lh (by rw [hXd];exact hnm)
 rw [hX]
 rw [hnm] at hr
 have hB:=al1 w (.cells #[.string X,.bool T.dir,bv] 24)
 have h3:=at3_new w X T.dir bv 24
 have HS1:=Lh (hs.keep hB)
 have hsz1:w.heap.size < (w.alloc (.cells #[.string X,.bool T.dir,bv] 24)).heap.size:=by simp
 clear hT hR hX hXd hnm hs hnl
 cases nm
 ·rw [if_pos rfl] at hr
  subst hr
  obtain ⟨c0,c1,c2⟩:=h3
  go_enter Tryz.func28,Tryz.ntmps28
  go_wp2_with (go_at_call 63;refine (rnm_of _ _ _ HZ.out HNM).mono ?_;rintro e w' ⟨rfl,rfl⟩)
  go_ret
  exact ⟨rfl,hB⟩
 rw [if_neg (by decide)] at hr
 have HR:=Lh hr
 clear hr
 obtain ⟨c0,c1,c2⟩:=id h3
 go_enter Tryz.func28,Tryz.ntmps28
 go_wp2_with fail
 refine (rnm_of _ _ _ HZ.out HNM).mono ?_
 rintro e w' ⟨rfl,rfl⟩
 go_wp2_with fail
 refine (pre_huge T.body _ _ bv 0 (Below.refl _ _) HS1.out hc (by decide) (by omega)).mono ?_
 rintro e w2 ⟨g,oc,F,rfl,hown,hF,hfv,hb2⟩
 have hFl:=fin_len hF
 have hB2:=below_keep hb2 hB
 have HO:=Lh hown
 have HF:=Lh hF
 have HFV:Hid (∀ f∈F,fvOk w2 f):=Lh (fun f hf=>(hfv f hf).keep hb2)
 clear c0 c1 c2 h3 hown hF hfv hb2 hsz1
 by_cases g5:512 < F.length
 ·have HN:Hid (R=2):=Lh (by have:=HR.out;rw [if_pos (by omega)] at this;exact this.symm)
  obtain rfl:=HN.out
  have l5:(512:Int) < (F.length:Int):=by omega
  clear g5 hFl
  go_wp2
  go_ret
  exact ⟨rfl,hB2⟩
 have HR2:Hid (firstE (preL T.body 0)=R):=Lh (by have:=HR.out;rw [if_neg (by omega)] at this;exact this)
 have l5:¬ (512:Int) < (F.length:Int):=by omega
 have hF512:F.length≤512:=by omega
 clear g5 hFl HR
 go_wp2_with fail
 go_loopw [4] (fun iv wr=>∃ k:Nat,k≤F.length∧iv=.int .i64 k∧firstE ((preL T.body 0).drop k)=R∧Below w2.heap.size w2 wr) (fun iv _=>F.length - (intOf iv).toNat)
 case atStart=>exact ⟨0,Nat.zero_le _,rfl,HR2.out,Below.refl _ _⟩
 case round =>
  obtain ⟨k,hk,rfl,hfe,hBr⟩:=hrel
  rename World=>wr
  have HFE:=Lh hfe
  clear hfe HR2
  by_cases hlt:k < F.length
  ·obtain ⟨p0,p1,p2,p3,p4,p5⟩:=flat_at (own_keep HO.out hBr) hlt
   obtain ⟨r0,r1,r2,r3,r4,r5⟩:=flat_at2 (own_keep HO.out hBr) hlt
   obtain ⟨hk2,hgk⟩:=fin_get HF.out hlt
   have hst:=HFE.out
   rw [firstE_drop hk2,hgk] at hst
   have hfk:=(HFV.out _ (List.getElem_mem hlt)).keep hBr
   obtain ⟨f,hfe⟩:∃ f,F[k]=f:=⟨_,rfl⟩
   rw [hfe] at p0 p1 p2 p3 p4 p5 r0 r1 r2 r3 r4 r5 hst hfk
   obtain ⟨s,lv,rv,av,bv'⟩:=f
   have HFK:=Lh hfk
   obtain ⟨E,hE⟩:∃ E,staE s lv=E:=⟨_,rfl⟩
   simp only at p0 p1 p2 p3 p4 p5 r0 r1 r2 r3 r4 r5 hst
   rw [hE] at hst
   have HE:=Lh hE
   have i0:(0:Int)≤(k:Int):=by omega
   have i1:(k:Int) < (F.length:Int):=by omega
   clear hE hfk hfe hgk HFE
   by_cases he:E=0
   ·rw [if_neg (by simp [he])] at hst
    have HN:=Lh hst
    subst he
    clear hst
    go_wp2_with (go_at_call 64;refine (rsta_of s lv rv av bv' 0 _ HFK HE).mono ?_;rintro e w3 ⟨rfl,hb3⟩)
    go_roundw
    case rel=>exact ⟨k+1,by omega,by go_num,HN.out,below_keep hb3 hBr⟩
    case measure=>simp [intOf];omega
   ·rw [if_pos he] at hst
    subst hst
    have b1:(E != 0)=true:=by simp [he]
    clear he
    go_wp2_with (go_at_call 64;refine (rsta_of s lv rv av bv' E _ HFK HE).mono ?_;rintro e w3 ⟨rfl,hb3⟩)
    go_ret
    exact ⟨rfl,below_keep hb3 (below_keep hBr hB2)⟩
  ·obtain rfl:k=F.length:=by omega
   have HN:Hid (R=0):=Lh (by
    have:=HFE.out
    rw [← HF.out,List.drop_of_length_le (by rw [List.length_map];exact Nat.le_refl _)] at this
    exact this.symm)
   obtain rfl:=HN.out
   go_wp2
   go_ret
   exact ⟨rfl,below_keep hBr hB2⟩
end Go.Proofs.YtcdoicgbjoikkaaGreatDoor.tre
