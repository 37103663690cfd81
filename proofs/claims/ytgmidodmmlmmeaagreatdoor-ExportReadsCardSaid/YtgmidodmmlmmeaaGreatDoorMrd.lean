/-
  The landed parser's methods attr and ref. Condition: tokens of a source.
  The landed parser's method attrs. Condition: tokens of a source.
  The landed parser's method refsBehind. Condition: tokens of a source.
-/
import Derived.Test.YtgmidodmmlmmeaaGreatDoorMrc
namespace Go.Proofs.YtgmidodmmlmmeaaGreatDoor.par
open Go.RowKit lex tre prt
def VP (a:Pr)(_ _:World)(v:Value):Prop:=v=.agg #[.string (bb a.1),.string (bb a.2)]∧a.1.length≤16384∧a.2.length≤16384
set_option maxRecDepth 100000 in
theorem attr_of (L:List Tok)(hL:Hid (TokL L))(R:Nat)(l:List Tok)(A:ByteArray)(lev:Int)(x:Rz Pr)(w:World)(h:Hid (Rd L R w l A lev))(hx:Hid (attR fmtL l=x)) :
    Calls Tryz.prog 289 #[.pointer (some ⟨R,0,none⟩)] w (Out L R A lev VP w x):=by
 have hR:=h.out.lt
 have hR1:w.heap.size≠R:=by omega
 have HRl:=Lh hR
 have HK:=Lh (blk_new w #[.string ⟨#[]⟩,.string ⟨#[]⟩] 69)
 have HB:=Lh (al1 w (.cells #[.string ⟨#[]⟩,.string ⟨#[]⟩] 69))
 clear hR
 go_enter Tryz.func289,Tryz.ntmps289
 go_wp2_with fail
 refine (name_of L hL R l A lev _ _ (Lh (h.out.below HB.out)) (Lh rfl)).mono ?_
 rintro e w1 ⟨hp1,hx1⟩
 have HP1:=Lh ((Pk.below (R:=R) HB.out).trans hp1)
 have HK1:=Lh (hp1.blk hR1 HK.out)
 cases hn:nameR l with
 | er c l1 =>
  rw [hn] at hx1
  obtain rfl:=hx1
  exact ⟨rfl,Out.pn (by rw [← hx.out];unfold attR;rw [hn];rfl) HP1.out⟩
 | ok k l1 =>
  rw [hn] at hx1
  obtain ⟨v1,rfl,⟨rfl,hk1⟩,hr1⟩:=hx1
  have HR1:=Lh hr1
  obtain ⟨X,hX⟩:∃ X,bb k=X:=⟨_,rfl⟩
  rw [hX]
  have HX:=Lh hX
  have HN:=Lh hn
  have hs1:=HP1.out.size
  have hR2:w1.heap.size≠R:=by have:=HRl.out;omega
  have HBa:=Lh (al1 w1 (.cells #[.string X,.string ⟨#[]⟩] 69))
  have HKa:=Lh (blk_new w1 #[.string X,.string ⟨#[]⟩] 69)
  have HK2:=Lh ((Pk.below (R:=R) HBa.out).blk hR1 HK1.out)
  have HS1:=Lh hs1
  clear hp1 hr1 hX hn hs1
  go_wp2_with fail
  refine (expect_mk L hL R l1 A lev [61] _ _ _ rfl (Lh (HR1.out.below HBa.out)) (by decide) (Lh rfl)).mono ?_
  rintro e w2 ⟨hp2,hx2⟩
  have HP2:=Lh ((HP1.out.trans (Pk.below HBa.out)).trans hp2)
  have HK3:=Lh (hp2.blk hR1 HK2.out)
  have HKb:=Lh (hp2.blk hR2 HKa.out)
  cases hn2:wantM [61] l1 with
  | er c l2 =>
   rw [hn2] at hx2
   obtain rfl:=hx2
   exact ⟨rfl,Out.pn (by rw [← hx.out];unfold attR;rw [HN.out,bnd_ok,hn2];rfl) HP2.out⟩
  | ok u l2 =>
   rw [hn2] at hx2
   obtain ⟨v2,rfl,rfl,hr2⟩:=hx2
   have HR2:=Lh hr2
   have HN2:=Lh hn2
   clear hp2 hr2 hn2
   go_wp2_with fail
   refine (value_of L hL R l2 A lev _ _ HR2 (Lh rfl)).mono ?_
   rintro e w3 ⟨hp3,hx3⟩
   have HP3:=Lh (HP2.out.trans hp3)
   have HK4:=Lh (hp3.blk hR1 HK3.out)
   have HKc:=Lh (hp3.blk hR2 HKb.out)
   cases hn3:valR fmtL l2 with
   | er c l3 =>
    rw [hn3] at hx3
    obtain rfl:=hx3
    exact ⟨rfl,Out.pn (by rw [← hx.out];unfold attR;rw [HN.out,bnd_ok,HN2.out,bnd_ok,hn3];rfl) HP3.out⟩
   | ok y l3 =>
    rw [hn3] at hx3
    obtain ⟨v3,rfl,⟨rfl,hk3⟩,hr3⟩:=hx3
    obtain ⟨Y,hY⟩:∃ Y,bb y=Y:=⟨_,rfl⟩
    rw [hY]
    have HY:=Lh hY
    have HX3:Hid (.ok (k,y) l3=x):=Lh (by rw [← hx.out];unfold attR;rw [HN.out,bnd_ok,HN2.out,bnd_ok,hn3];rfl)
    have hne:w.heap.size≠w1.heap.size:=by
     have:=HP1.out.size
     have h2:=blk_lt HK1.out
     omega
    have a0:w3.cell? ⟨w1.heap.size,0,none⟩=some (.string X):=by rw [blk_cell HKc.out];rfl
    have a1:w3.cell? ⟨w1.heap.size,1,none⟩=some (.string ⟨#[]⟩):=by rw [blk_cell HKc.out];rfl
    have f1:w3.frozen? ⟨w1.heap.size,1,none⟩=false:=blk_free HKc.out
    have b0:w3.cell? ⟨w.heap.size,0,none⟩=some (.string ⟨#[]⟩):=by rw [blk_cell HK4.out];rfl
    have b1:w3.cell? ⟨w.heap.size,1,none⟩=some (.string ⟨#[]⟩):=by rw [blk_cell HK4.out];rfl
    have g0:w3.frozen? ⟨w.heap.size,0,none⟩=false:=blk_free HK4.out
    have g1:w3.frozen? ⟨w.heap.size,1,none⟩=false:=blk_free HK4.out
    have HR3:=Lh hr3
    clear hp3 hr3 hn3 hY
    go_wp2
    refine bodyPost_ret (v:=.agg #[.string X,.string Y]) (by simp [results,Tryz.results289,go_sem,b0,b1]) rfl ?_
    refine Out.ok HX3.out ?_ ⟨by rw [HX.out,HY.out],hk1,hk3⟩ ?_
    ·exact (((HP3.out.store (by exact HS1.out) _).store (Nat.le_refl _) _).store (Nat.le_refl _) _)
    ·exact ((HR3.out.store (by have:=HRl.out;have:=HS1.out;omega) _).store HRl.out _).store HRl.out _
set_option maxRecDepth 100000 in
theorem ref_of (L:List Tok)(hL:Hid (TokL L))(R:Nat)(l:List Tok)(A:ByteArray)(lev:Int)(x:Rz Pr)(w:World)(h:Hid (Rd L R w l A lev))(hx:Hid (refR l=x)) :
    Calls Tryz.prog 270 #[.pointer (some ⟨R,0,none⟩)] w (Out L R A lev VP w x):=by
 have hR:=h.out.lt
 have hR1:w.heap.size≠R:=by omega
 have HRl:=Lh hR
 have HK:=Lh (blk_new w #[.string ⟨#[]⟩,.string ⟨#[]⟩] 121)
 have HB:=Lh (al1 w (.cells #[.string ⟨#[]⟩,.string ⟨#[]⟩] 121))
 clear hR
 go_enter Tryz.func270,Tryz.ntmps270
 go_wp2_with fail
 refine (name_of L hL R l A lev _ _ (Lh (h.out.below HB.out)) (Lh rfl)).mono ?_
 rintro e w1 ⟨hp1,hx1⟩
 have HP1:=Lh ((Pk.below (R:=R) HB.out).trans hp1)
 have HK1:=Lh (hp1.blk hR1 HK.out)
 cases hn:nameR l with
 | er c l1 =>
  rw [hn] at hx1
  obtain rfl:=hx1
  exact ⟨rfl,Out.pn (by rw [← hx.out];unfold refR;rw [hn];rfl) HP1.out⟩
 | ok k l1 =>
  rw [hn] at hx1
  obtain ⟨v1,rfl,⟨rfl,hk1⟩,hr1⟩:=hx1
  have HR1:=Lh hr1
  obtain ⟨X,hX⟩:∃ X,bb k=X:=⟨_,rfl⟩
  rw [hX]
  have HX:=Lh hX
  have HN:=Lh hn
  have hs1:=HP1.out.size
  have hR2:w1.heap.size≠R:=by have:=HRl.out;omega
  have HBa:=Lh (al1 w1 (.cells #[.string X,.string ⟨#[]⟩] 121))
  have HKa:=Lh (blk_new w1 #[.string X,.string ⟨#[]⟩] 121)
  have HK2:=Lh ((Pk.below (R:=R) HBa.out).blk hR1 HK1.out)
  have HS1:=Lh hs1
  have hne:w.heap.size≠w1.heap.size:=by
   have h2:=blk_lt HK1.out
   omega
  clear hp1 hr1 hX hn hs1
  cases hc:isT 5 [58] l1 with
  | false =>
   have HC:=Lh hc
   clear hc
   go_wp2_with fail
   refine (accept_mk L hL R l1 l1 A lev [58] _ false _ rfl (Lh (HR1.out.below HBa.out)) (by decide) HC (Lh rfl)).mono ?_
   rintro e w2 ⟨rfl,hr2,hp2⟩
   have HP2:=Lh ((HP1.out.trans (Pk.below HBa.out)).trans hp2)
   have HK3:=Lh (hp2.blk hR1 HK2.out)
   have HKb:=Lh (hp2.blk hR2 HKa.out)
   have HR2:=Lh hr2
   have HX3:Hid (.ok (k,[]) l1=x):=Lh (by rw [← hx.out];unfold refR;rw [HN.out,bnd_ok,HC.out];rfl)
   have a0:w2.cell? ⟨w1.heap.size,0,none⟩=some (.string X):=by rw [blk_cell HKb.out];rfl
   have a1:w2.cell? ⟨w1.heap.size,1,none⟩=some (.string ⟨#[]⟩):=by rw [blk_cell HKb.out];rfl
   have b0:w2.cell? ⟨w.heap.size,0,none⟩=some (.string ⟨#[]⟩):=by rw [blk_cell HK3.out];rfl
   have b1:w2.cell? ⟨w.heap.size,1,none⟩=some (.string ⟨#[]⟩):=by rw [blk_cell HK3.out];rfl
   have g0:w2.frozen? ⟨w.heap.size,0,none⟩=false:=blk_free HK3.out
   have g1:w2.frozen? ⟨w.heap.size,1,none⟩=false:=blk_free HK3.out
   clear hp2 hr2
   go_wp2
   refine bodyPost_ret (v:=.agg #[.string X,.string ⟨#[]⟩]) (by simp [results,Tryz.results270,go_sem,b0,b1]) rfl ?_
   refine Out.ok HX3.out ?_ ⟨by rw [HX.out],hk1,Nat.zero_le _⟩ ?_
   ·exact ((HP2.out.store (Nat.le_refl _) _).store (Nat.le_refl _) _)
   ·exact (HR2.out.store HRl.out _).store HRl.out _
  | true =>
   have HC:=Lh hc
   clear hc
   go_wp2_with fail
   refine (accept_mk L hL R l1 l1.tail A lev [58] _ true _ rfl (Lh (HR1.out.below HBa.out)) (by decide) HC (Lh rfl)).mono ?_
   rintro e w2 ⟨rfl,hr2,hp2⟩
   have HP2:=Lh ((HP1.out.trans (Pk.below HBa.out)).trans hp2)
   have HK3:=Lh (hp2.blk hR1 HK2.out)
   have HKb:=Lh (hp2.blk hR2 HKa.out)
   have HR2:=Lh hr2
   clear hp2 hr2
   go_wp2_with fail
   refine (name_of L hL R l1.tail A lev _ _ HR2 (Lh rfl)).mono ?_
   rintro e w3 ⟨hp3,hx3⟩
   have HP3:=Lh (HP2.out.trans hp3)
   have HK4:=Lh (hp3.blk hR1 HK3.out)
   have HKc:=Lh (hp3.blk hR2 HKb.out)
   cases hn3:nameR l1.tail with
   | er c l3 =>
    rw [hn3] at hx3
    obtain rfl:=hx3
    exact ⟨rfl,Out.pn (by rw [← hx.out];unfold refR;rw [HN.out,bnd_ok,HC.out,if_pos rfl,hn3];rfl) HP3.out⟩
   | ok y l3 =>
    rw [hn3] at hx3
    obtain ⟨v3,rfl,⟨rfl,hk3⟩,hr3⟩:=hx3
    obtain ⟨Y,hY⟩:∃ Y,bb y=Y:=⟨_,rfl⟩
    rw [hY]
    have HY:=Lh hY
    have HX3:Hid (.ok (k,y) l3=x):=Lh (by rw [← hx.out];unfold refR;rw [HN.out,bnd_ok,HC.out,if_pos rfl,hn3];rfl)
    have a0:w3.cell? ⟨w1.heap.size,0,none⟩=some (.string X):=by rw [blk_cell HKc.out];rfl
    have a1:w3.cell? ⟨w1.heap.size,1,none⟩=some (.string ⟨#[]⟩):=by rw [blk_cell HKc.out];rfl
    have f1:w3.frozen? ⟨w1.heap.size,1,none⟩=false:=blk_free HKc.out
    have b0:w3.cell? ⟨w.heap.size,0,none⟩=some (.string ⟨#[]⟩):=by rw [blk_cell HK4.out];rfl
    have b1:w3.cell? ⟨w.heap.size,1,none⟩=some (.string ⟨#[]⟩):=by rw [blk_cell HK4.out];rfl
    have g0:w3.frozen? ⟨w.heap.size,0,none⟩=false:=blk_free HK4.out
    have g1:w3.frozen? ⟨w.heap.size,1,none⟩=false:=blk_free HK4.out
    have HR3:=Lh hr3
    clear hp3 hr3 hn3 hY
    go_wp2
    refine bodyPost_ret (v:=.agg #[.string X,.string Y]) (by simp [results,Tryz.results270,go_sem,b0,b1]) rfl ?_
    refine Out.ok HX3.out ?_ ⟨by rw [HX.out,HY.out],hk1,hk3⟩ ?_
    ·exact (((HP3.out.store (by exact HS1.out) _).store (Nat.le_refl _) _).store (Nat.le_refl _) _)
    ·exact ((HR3.out.store (by have:=HRl.out;have:=HS1.out;omega) _).store HRl.out _).store HRl.out _
def lenV:Value→Nat
 | .slice _ n _=>n
 | _=>0
def VPs (a:List Pr)(w w':World)(v:Value):Prop:=selfP w.heap.size w' v a
def tailA (n:Nat)(l:List Tok):Rz (List Pr):=if isT 5 [44] l then attrsF fmtL n l.tail else (wantM [93] l).bnd fun _ l=>.ok [] l
theorem attrsF_eq (n:Nat)(l:List Tok):attrsF fmtL (n+1) l=(attR fmtL l).bnd fun a l=>(tailA n l).bnd fun t l=>.ok (a :: t) l:=by
 rw [attrsF]
 congr 1
 funext a l
 unfold tailA
 split
 ·rfl
 ·cases wantM [93] l <;> rfl
theorem isT_cons' {k:Int}{c:List UInt8}{l:List Tok}(h:isT k c l=true):l=l.head?.getD ⟨0,[],0,0⟩ :: l.tail∧l.tail.length+1=l.length:=by
 cases l with
 | nil=>cases h
 | cons t r=>exact ⟨rfl,rfl⟩
theorem tailA_go {D:List Pr}{m:Nat}{l:List Tok}{x:Rz (List Pr)}(h:((tailA m l).bnd fun t l=>.ok (D ++ t) l)=x)(hl:l.length≤m)(hc:isT 5 [44] l=true):∃ m',m=m'+1∧l.tail.length≤m'∧((attR fmtL l.tail).bnd fun a l=>(tailA m' l).bnd fun t l=>.ok (D ++ [a] ++ t) l)=x:=by
 obtain ⟨_,h2⟩:=isT_cons' hc
 obtain ⟨m',rfl⟩:∃ m',m=m'+1:=⟨m - 1,by omega⟩
 refine ⟨m',rfl,by omega,?_⟩
 rw [← h]
 unfold tailA
 rw [if_pos hc,attrsF_eq]
 cases attR fmtL l.tail with
 | er c l1=>rfl
 | ok a l1 =>
  rw [bnd_ok,bnd_ok]
  show (tailA m' l1).bnd _=_
  cases tailA m' l1 with
  | er c l2=>rfl
  | ok t l2=>rw [bnd_ok,bnd_ok,bnd_ok,List.append_assoc];rfl
theorem tailA_end {D:List Pr}{m:Nat}{l:List Tok}{x:Rz (List Pr)}(h:((tailA m l).bnd fun t l=>.ok (D ++ t) l)=x)(hc:isT 5 [44] l=false):((wantM [93] l).bnd fun _ l=>.ok D l)=x:=by
 rw [← h]
 unfold tailA
 rw [hc]
 cases wantM [93] l with
 | er c l1=>rfl
 | ok t l2=>simp [Rz.bnd]
theorem att_lt {l r:List Tok}{a:Pr}(h:attR fmtL l=.ok a r):r.length≤l.length:=by
 have:=att_sf (fm:=fmtL) l
 rw [h] at this
 exact List.IsSuffix.length_le this
theorem own_two {w:World}{B:Nat}{e:TypeId}(x:Pr)(hB:B≤w.heap.size):(w.alloc (.cells #[.string (bb x.1),.string (bb x.2)] e)).ownsRow B e 2 (.slice (some ⟨w.heap.size,0,none⟩) 1 1) [x].length ([x].flatMap prC) :=
 ⟨rfl,Or.inr ⟨_,1,_,rfl,hB,heap_alloc_new w _,Nat.le_refl _,by decide,rfl,rfl⟩⟩
def okLen (l:List Pr):Prop:=∀ r∈l,r.1.length≤16384∧r.2.length≤16384
theorem okLen.max {l:List Pr}(h:okLen l):∀ r∈l,r.1.length≤maxLen∧r.2.length≤maxLen:=fun r hr=>⟨Nat.le_trans (h r hr).1 (by decide),Nat.le_trans (h r hr).2 (by decide)⟩
theorem okLen.one {r:Pr}(hr:r.1.length≤16384∧r.2.length≤16384):okLen [r]:=by
 intro q hq
 obtain rfl:q=r:=by simpa using hq
 exact hr
theorem okLen.snoc {l:List Pr}(h:okLen l){r:Pr}(hr:r.1.length≤16384∧r.2.length≤16384):okLen (l ++ [r]):=by
 intro q hq
 rcases List.mem_append.1 hq with hq | hq
 ·exact h q hq
 ·obtain rfl:q=r:=by simpa using hq
  exact hr
set_option maxRecDepth 100000 in
set_option maxHeartbeats 4000000 in
theorem attrs_of (L:List Tok)(hL:Hid (TokL L))(R:Nat)(l:List Tok)(A:ByteArray)(lev:Int)(x:Rz (List Pr))(w:World)(h:Hid (Rd L R w l A lev))(hx:Hid (attrsR fmtL l=x)) :
    Calls Tryz.prog 268 #[.pointer (some ⟨R,0,none⟩)] w (Out L R A lev VPs w x):=by
 have HRl:=Lh h.out.lt
 have HLl:Hid (l.length≤16384):=Lh (Nat.le_trans (List.IsSuffix.length_le h.out.suf) hL.out.1)
 go_enter Tryz.func268,Tryz.ntmps268
 go_wp2_with fail
 refine (expect_mk L hL R l A lev [91] _ _ _ rfl h (by decide) (Lh rfl)).mono ?_
 rintro e w1 ⟨hp1,hx1⟩
 cases hn:wantM [91] l with
 | er c l1 =>
  rw [hn] at hx1
  obtain rfl:=hx1
  exact ⟨rfl,Out.pn (by rw [← hx.out];unfold attrsR;rw [hn];rfl) hp1⟩
 | ok u l1 =>
  rw [hn] at hx1
  obtain ⟨v1,rfl,rfl,hr1⟩:=hx1
  have HR1:=Lh hr1
  have HP1:=Lh hp1
  have HN:=Lh hn
  have HS1:Hid (R < w1.heap.size∧w.heap.size≤w1.heap.size):=Lh ⟨hr1.lt,hp1.size⟩
  have HLl1:Hid (l1.length≤16384):=Lh (Nat.le_trans (List.IsSuffix.length_le hr1.suf) hL.out.1)
  clear hn hr1 hp1
  cases hc:isT 5 [93] l1 with
  | true =>
   have HC:=Lh hc
   clear hc
   go_wp2_with fail
   refine (accept_mk L hL R l1 l1.tail A lev [93] _ true _ rfl HR1 (by decide) HC (Lh rfl)).mono ?_
   rintro e w2 ⟨rfl,hr2,hp2⟩
   have H2:=Lh (And.intro hr2 (HP1.out.trans hp2))
   clear hr2 hp2
   go_wp2
   go_ret
   exact Out.ok (a:=[]) (by rw [← hx.out];unfold attrsR;rw [HN.out,bnd_ok,HC.out,if_pos rfl]) H2.out.2 (selfP.nil _ _) H2.out.1
  | false =>
   have HC:=Lh hc
   have HX1:Hid (((attR fmtL l1).bnd fun a l=>(tailA l1.length l).bnd fun t l=>.ok ([a] ++ t) l)=x):=Lh (by rw [← hx.out];unfold attrsR;rw [HN.out,bnd_ok,HC.out,if_neg (by decide),attrsF_eq];rfl)
   clear hc
   go_wp2_with fail
   refine (accept_mk L hL R l1 l1 A lev [93] _ false _ rfl HR1 (by decide) HC (Lh rfl)).mono ?_
   rintro e w2 ⟨rfl,hr2,hp2⟩
   have HR2:=Lh hr2
   have HP2:=Lh (HP1.out.trans hp2)
   clear hr2 hp2 HR1
   go_wp2_with fail
   refine (attr_of L hL R l1 A lev _ _ HR2 (Lh rfl)).mono ?_
   rintro e w3 ⟨hp3,hx3⟩
   have HP3:=Lh (HP2.out.trans hp3)
   cases hn3:attR fmtL l1 with
   | er c l3 =>
    rw [hn3] at hx3
    obtain rfl:=hx3
    exact ⟨rfl,Out.pn (by rw [← HX1.out,hn3];rfl) HP3.out⟩
   | ok a l3 =>
    rw [hn3] at hx3
    obtain ⟨v3,rfl,⟨rfl,ha1,ha2⟩,hr3⟩:=hx3
    have hl3:=att_lt hn3
    have HX3:Hid (((tailA l1.length l3).bnd fun t l=>.ok ([a] ++ t) l)=x):=Lh (by rw [← HX1.out,hn3];rfl)
    have HR3:=Lh hr3
    have hs3:R < w3.heap.size:=hr3.lt
    have HO3:=Lh (own_two (w:=w3) (B:=w3.heap.size) (e:=69) a (Nat.le_refl _))
    have HR4:=Lh (hr3.alloc (.cells #[.string (bb a.1),.string (bb a.2)] 69))
    have HP4:=Lh (HP3.out.alloc (.cells #[.string (bb a.1),.string (bb a.2)] 69))
    have HA:Hid (okLen [a]):=Lh (okLen.one ⟨ha1,ha2⟩)
    have HL3:Hid (1+l3.length≤16385∧l3.length≤l1.length):=Lh (by have:=HLl1.out;omega)
    have HS3:=Lh hs3
    have HZ4:Hid (w3.heap.size≤(w3.alloc (.cells #[.string (bb a.1),.string (bb a.2)] 69)).heap.size):=Lh (by simp)
    have HSw:Hid (w.heap.size≤w3.heap.size):=Lh HP3.out.size
    clear hp3 hr3 hn3 hl3 ha1 ha2 hs3
    go_wp2_with fail
    generalize w3.alloc (.cells #[.string (bb a.1),.string (bb a.2)] 69)=w4 at HO3 HR4 HP4 HZ4 ⊢
    go_loopw [3] (fun lv wr=>∃ (D:List Pr) (m:Nat) (lc:List Tok),((tailA m lc).bnd fun t l=>.ok (D ++ t) l)=x∧lc.length≤m∧D.length+lc.length≤16385∧wr.ownsRow w3.heap.size 69 2 lv D.length (D.flatMap prC)∧okLen D∧Rd L R wr lc A lev∧Pk R w wr∧w3.heap.size≤wr.heap.size) (fun lv _=>20000 - lenV lv)
    case atStart=>exact ⟨[a],_,_,HX3.out,HL3.out.2,HL3.out.1,HO3.out,HA.out,HR4.out,HP4.out,HZ4.out⟩
    case round =>
     obtain ⟨D,m,lc,hx',hm,hn',ho,hd,hr,hp,hz⟩:=hrel
     rename World=>wr
     obtain ⟨o1,c1,rfl,-,-⟩:=own_form ho
     have HX':=Lh hx'
     have HM:=Lh hm
     have HN':=Lh hn'
     have HO:=Lh ho
     have HD:=Lh hd
     have HR:=Lh hr
     have HP:=Lh hp
     have HZ:=Lh hz
     clear hx' hm hn' ho hd hr hp hz
     cases hc2:isT 5 [44] lc with
     | true =>
      obtain ⟨m',rfl,hm',hx2⟩:=tailA_go HX'.out HM.out hc2
      have htl:=(isT_cons' hc2).2
      have HC2:=Lh hc2
      have HM':=Lh hm'
      have HX2:=Lh hx2
      have HTL:=Lh htl
      clear hc2 hm' hx2 htl
      go_wp2_with fail
      refine (accept_mk L hL R lc lc.tail A lev [44] _ true _ rfl HR (by decide) HC2 (Lh rfl)).mono ?_
      rintro e w5 ⟨rfl,hr5,hp5⟩
      have HR5:=Lh hr5
      have HP5:=Lh (HP.out.trans hp5)
      have HO5:=Lh (hp5.own HS3.out HO.out)
      have hp5':Hid (wr.heap.size≤w5.heap.size):=Lh hp5.size
      clear hr5 hp5
      go_wp2_with fail
      refine (attr_of L hL R lc.tail A lev _ _ HR5 (Lh rfl)).mono ?_
      rintro e w6 ⟨hp6,hx6⟩
      have HP6:=Lh (HP5.out.trans hp6)
      have HO6:=Lh (hp6.own HS3.out HO5.out)
      cases hn6:attR fmtL lc.tail with
      | er c l6 =>
       rw [hn6] at hx6
       obtain rfl:=hx6
       exact ⟨rfl,Out.pn (by rw [← HX2.out,hn6];rfl) HP6.out⟩
      | ok y l6 =>
       rw [hn6] at hx6
       obtain ⟨v6,rfl,⟨rfl,ha1,ha2⟩,hr6⟩:=hx6
       have hl6:=att_lt hn6
       have HX6:Hid (((tailA m' l6).bnd fun t l=>.ok (D ++ [y] ++ t) l)=x):=Lh (by rw [← HX2.out,hn6];rfl)
       have HR6:=Lh hr6
       have HDy:=Lh (HD.out.snoc ⟨ha1,ha2⟩)
       have HL6:Hid (l6.length≤m'∧(D ++ [y]).length+l6.length≤16385):=Lh (by
        have:=HTL.out;have:=HM'.out;have:=HN'.out
        rw [List.length_append];simp only [List.length_cons,List.length_nil];omega)
       have hdl:D.length≤1000000:=by have:=HN'.out;omega
       have hgb:w3.heap.size≤w6.heap.size:=by have:=HZ.out;have:=hp5'.out;have:=hp6.size;omega
       clear hr6 hp6 hn6 hl6 ha1 ha2
       go_wp2_with (at_builtin;refine app_pr Tryz.underlying65 info_of_cla rfl (.tmp 13) (.tmp 16) rfl w3.heap.size _ D y w6.heap.size rfl rfl rfl HO6 hdl hgb ?_;intro o7 c7 w7 own7 grow7;have HO7:=Lh own7;have HG7:=Lh grow7;clear own7 grow7)
       have hrow:∀ q,(Value.slice o1 D.length c1).ownBlock=some q→w3.heap.size≤q:=fun q hq=>(World.ownsRow.lt HO6.out q hq).1
       have HR7:=Lh (HR6.out.grown HG7.out (fun q hq=>by have:=hrow q hq;have:=HS3.out;omega))
       have HP7:=Lh (HP6.out.grown HG7.out (fun q hq=>by have:=hrow q hq;have:=HSw.out;omega))
       have HZ7:Hid (w3.heap.size≤w7.heap.size):=Lh (Nat.le_trans hgb HG7.out.size)
       clear hrow hgb
       go_roundw
       case rel=>exact ⟨D ++ [y],m',l6,HX6.out,HL6.out.1,HL6.out.2,by have:=HO7.out;simpa using this,HDy.out,HR7.out,HP7.out,HZ7.out⟩
       case measure=>simp only [lenV];have:=HN'.out;omega
     | false =>
      have HX2:=Lh (tailA_end HX'.out hc2)
      have HC2:=Lh hc2
      clear hc2
      go_wp2_with fail
      refine (accept_mk L hL R lc lc A lev [44] _ false _ rfl HR (by decide) HC2 (Lh rfl)).mono ?_
      rintro e w5 ⟨rfl,hr5,hp5⟩
      have HR5:=Lh hr5
      have HP5:=Lh (HP.out.trans hp5)
      have HO5:=Lh (hp5.own HS3.out HO.out)
      clear hr5 hp5
      go_wp2_with fail
      refine (expect_mk L hL R lc A lev [93] _ _ _ rfl HR5 (by decide) (Lh rfl)).mono ?_
      rintro e w6 ⟨hp6,hx6⟩
      have HP6:=Lh (HP5.out.trans hp6)
      have HO6:=Lh (hp6.own HS3.out HO5.out)
      cases hn6:wantM [93] lc with
      | er c l6 =>
       rw [hn6] at hx6
       obtain rfl:=hx6
       exact ⟨rfl,Out.pn (by rw [← HX2.out,hn6];rfl) HP6.out⟩
      | ok u l6 =>
       rw [hn6] at hx6
       obtain ⟨v6,rfl,rfl,hr6⟩:=hx6
       have HR6:=Lh hr6
       have HX6:Hid (.ok D l6=x):=Lh (by rw [← HX2.out,hn6];rfl)
       have HE:=Lh (own_selfP (lo:=w.heap.size) HO6.out HSw.out HD.out.max)
       clear hr6 hp6 hn6
       go_wp2
       go_ret
       exact Out.ok HX6.out HP6.out HE.out HR6.out
def refsR (d:Bool)(f:Pr)(l:List Tok):Rz (List Pr):=(wantM (arrow d) l).bnd fun _ l=>(refR l).bnd fun r l=>(refsF d (l.length+1) l).bnd fun rs l=>.ok (f :: r :: rs) l
theorem refsF_go {d:Bool}{D:List Pr}{m:Nat}{l:List Tok}{x:Rz (List Pr)}(h:((refsF d m l).bnd fun t l=>.ok (D ++ t) l)=x)(hl:l.length < m)(hc:isT 5 (arrow d) l=true):∃ m',m=m'+1∧l.tail.length < m'∧((refR l.tail).bnd fun a l=>(refsF d m' l).bnd fun t l=>.ok (D ++ [a] ++ t) l)=x:=by
 obtain ⟨_,h2⟩:=isT_cons' hc
 obtain ⟨m',rfl⟩:∃ m',m=m'+1:=⟨m - 1,by omega⟩
 refine ⟨m',rfl,by omega,?_⟩
 rw [← h,refsF,if_pos hc]
 cases refR l.tail with
 | er c l1=>rfl
 | ok a l1 =>
  rw [bnd_ok,bnd_ok]
  cases refsF d m' l1 with
  | er c l2=>rfl
  | ok t l2=>rw [bnd_ok,bnd_ok,bnd_ok,List.append_assoc];rfl
theorem refsF_end {d:Bool}{D:List Pr}{m:Nat}{l:List Tok}{x:Rz (List Pr)}(h:((refsF d m l).bnd fun t l=>.ok (D ++ t) l)=x)(hl:l.length < m)(hc:isT 5 (arrow d) l=false):.ok D l=x:=by
 obtain ⟨m',rfl⟩:∃ m',m=m'+1:=⟨m - 1,by omega⟩
 rw [← h,refsF,hc]
 simp [Rz.bnd]
theorem ref_lt {l r:List Tok}{a:Pr}(h:refR l=.ok a r):r.length≤l.length:=by
 have:=ref_sf l
 rw [h] at this
 exact List.IsSuffix.length_le this
theorem want_lt {c:List UInt8}{l r:List Tok}{u:Unit}(h:wantM c l=.ok u r):r.length≤l.length:=by
 have:=want_sf c l
 rw [h] at this
 exact List.IsSuffix.length_le this
theorem own_four {w:World}{B:Nat}{e:TypeId}(x y:Pr)(hB:B≤w.heap.size):(w.alloc (.cells #[.string (bb x.1),.string (bb x.2),.string (bb y.1),.string (bb y.2)] e)).ownsRow B e 2 (.slice (some ⟨w.heap.size,0,none⟩) 2 2) [x,y].length ([x,y].flatMap prC) :=
 ⟨rfl,Or.inr ⟨_,2,_,rfl,hB,heap_alloc_new w _,Nat.le_refl _,by decide,rfl,rfl⟩⟩
theorem arrow_kw (d:Bool):isKw (arrow d)=false:=by cases d <;> decide
set_option maxRecDepth 100000 in
set_option maxHeartbeats 4000000 in
theorem refs_of (L:List Tok)(hL:Hid (TokL L))(R:Nat)(l:List Tok)(d:Bool)(A:ByteArray)(hA:bb (arrow d)=A)(lev:Int)(f:Pr)(x:Rz (List Pr))(w:World)(h:Hid (Rd L R w l A lev))(hf:Hid (f.1.length≤16384∧f.2.length≤16384))(hx:Hid (refsR d f l=x)) :
    Calls Tryz.prog 271 #[.pointer (some ⟨R,0,none⟩),.agg #[.string (bb f.1),.string (bb f.2)]] w (Out L R A lev VPs w x):=by
 have HRl:=Lh h.out.lt
 have HA:=Lh hA
 clear hA
 have hR1:w.heap.size≠R:=by have:=HRl.out;omega
 have HLl:Hid (l.length≤16384):=Lh (Nat.le_trans (List.IsSuffix.length_le h.out.suf) hL.out.1)
 have HB:=Lh (al1 w (.cells #[.string (bb f.1),.string (bb f.2)] 121))
 have HK:=Lh (blk_new w #[.string (bb f.1),.string (bb f.2)] 121)
 have HR0:=Lh (h.out.below HB.out)
 obtain ⟨r2,-,-,-⟩:=HR0.out.cells
 go_enter Tryz.func271,Tryz.ntmps271
 go_wp2_with fail
 refine (expect_mk L hL R l A lev (arrow d) A _ _ HA.out HR0 (arrow_kw d) (Lh rfl)).mono ?_
 rintro e w1 ⟨hp1,hx1⟩
 have HP1:=Lh ((Pk.below (R:=R) HB.out).trans hp1)
 have HK1:=Lh (hp1.blk hR1 HK.out)
 cases hn:wantM (arrow d) l with
 | er c l1 =>
  rw [hn] at hx1
  obtain rfl:=hx1
  exact ⟨rfl,Out.pn (by rw [← hx.out];unfold refsR;rw [hn];rfl) HP1.out⟩
 | ok u l1 =>
  rw [hn] at hx1
  obtain ⟨v1,rfl,rfl,hr1⟩:=hx1
  have HR1:=Lh hr1
  have HN:=Lh hn
  have HLl1:Hid (l1.length≤16384):=Lh (Nat.le_trans (want_lt hn) HLl.out)
  have k0:w1.cell? ⟨w.heap.size,0,none⟩=some (.string (bb f.1)):=by rw [blk_cell HK1.out];rfl
  have k1:w1.cell? ⟨w.heap.size,1,none⟩=some (.string (bb f.2)):=by rw [blk_cell HK1.out];rfl
  have HX1:Hid (((refR l1).bnd fun r l=>(refsF d (l.length+1) l).bnd fun rs l=>.ok (f :: r :: rs) l)=x):=Lh (by rw [← hx.out];unfold refsR;rw [HN.out];rfl)
  clear hn hr1 hp1 r2
  go_wp2_with fail
  refine wp_region_held_drew (S:=fun w'=>w'.cell? ⟨w.heap.size,0,none⟩=some (.string (bb f.1))∧w'.cell? ⟨w.heap.size,1,none⟩=some (.string (bb f.2))) (by kernel_rfl) ⟨k0,k1⟩ (fun hHeld=>?_)
  refine wpAnyH_take (i:=0) (v:=.agg #[.string (bb f.1),.string (bb f.2)]) rfl (by kernel_rfl) (by kernel_rfl) (by kernel_rfl) (fun _ _ _ h=>h) (Or.inl ⟨by rfl,?_⟩) hHeld ?_
  ·intro W hSw
   obtain ⟨s0,s1⟩:=hSw
   go_simp
  simp only [Act.put,List.setIfInBounds_toArray]
  refine wpAnyH_take (i:=1) (v:=.pointer (some ⟨R,0,none⟩)) rfl (by kernel_rfl) (by kernel_rfl) (by kernel_rfl) (fun _ _ _ h=>h) (Or.inl ⟨by rfl,?_⟩) hHeld ?_
  ·intro W hSw
   go_simp
  simp only [Act.put]
  refine wpAnyH_ready (rs:=[2]) (by kernel_rfl) (by simp) ?_
  refine AllReadyH.cons rfl (fun K hK=>?_) AllReadyH.nil
  go_simp
  refine (ref_of L hL R l1 A lev _ _ (Lh HR1.out.drew) (Lh rfl)).mono ?_
  rintro e w2 ⟨hp2,hx2⟩
  cases hn2:refR l1 with
  | er c l2 =>
   rw [hn2] at hx2
   obtain rfl:=hx2
   exact ⟨rfl,Out.pn (by rw [← HX1.out,hn2];rfl) (HP1.out.drew.trans hp2)⟩
  | ok y l2 =>
   rw [hn2] at hx2
   obtain ⟨v2,rfl,⟨rfl,hy1,hy2⟩,hr2⟩:=hx2
   have HP2:=Lh (HP1.out.drew.trans hp2)
   have hk2:=hp2.blk hR1 (show blk w1.drew w.heap.size 121 #[.string (bb f.1),.string (bb f.2)] from HK1.out)
   have m0:w2.cell? ⟨w.heap.size,0,none⟩=some (.string (bb f.1)):=by rw [blk_cell hk2];rfl
   have m1:w2.cell? ⟨w.heap.size,1,none⟩=some (.string (bb f.2)):=by rw [blk_cell hk2];rfl
   have HX2:Hid (((refsF d (l2.length+1) l2).bnd fun rs l=>.ok ([f,y] ++ rs) l)=x):=Lh (by rw [← HX1.out,hn2];rfl)
   have HL2:Hid (l2.length < l2.length+1∧2+l2.length≤16386):=Lh (by have:=HLl1.out;have:=ref_lt hn2;omega)
   have HD2:Hid (okLen [f,y]):=Lh ((okLen.one (r:=f) hf.out).snoc ⟨hy1,hy2⟩)
   have HS2:Hid (R < w2.heap.size∧w.heap.size≤w2.heap.size):=Lh ⟨hr2.lt,HP2.out.size⟩
   have HO3:=Lh (own_four (w:=w2) (B:=w2.heap.size) (e:=121) f y (Nat.le_refl _))
   have HR3:=Lh (hr2.alloc (.cells #[.string (bb f.1),.string (bb f.2),.string (bb y.1),.string (bb y.2)] 121))
   have HP3:=Lh (HP2.out.alloc (.cells #[.string (bb f.1),.string (bb f.2),.string (bb y.1),.string (bb y.2)] 121))
   have HZ3:Hid (w2.heap.size≤(w2.alloc (.cells #[.string (bb f.1),.string (bb f.2),.string (bb y.1),.string (bb y.2)] 121)).heap.size):=Lh (by simp)
   clear hp2 hr2 hn2 hk2 hy1 hy2
   refine hK.out _ _ ⟨m0,m1⟩ (fun hHeld2=>?_)
   clear hK K hHeld
   refine wpAnyH_ready (rs:=[3]) (by kernel_rfl) (by simp) ?_
   refine AllReadyH.cons rfl (fun K hK=>?_) AllReadyH.nil
   go_simp
   refine hK.out _ _ ⟨cell_keep (al1 _ _) m0,cell_keep (al1 _ _) m1⟩ (fun hHeld3=>?_)
   clear hK K hHeld2
   generalize w2.alloc (.cells #[.string (bb f.1),.string (bb f.2),.string (bb y.1),.string (bb y.2)] 121)=w3 at HO3 HR3 HP3 HZ3 hHeld3 ⊢
   refine wpAnyH_ready (rs:=[4]) (by kernel_rfl) (by simp) ?_
   refine AllReadyH.cons rfl (fun K hK=>?_) AllReadyH.nil
   go_simp
   refine hK.out _ _ hHeld3 (fun hHeld4=>?_)
   clear hK K
   refine wpAnyH_done (by kernel_rfl) ?_ _
   clear hHeld3 hHeld4
   clear m0 m1
   go_wp2_with fail
   go_loopw [5] (fun lv wr=>∃ (D:List Pr) (m:Nat) (lc:List Tok),((refsF d m lc).bnd fun t l=>.ok (D ++ t) l)=x∧lc.length < m∧D.length+lc.length≤16386∧wr.ownsRow w2.heap.size 121 2 lv D.length (D.flatMap prC)∧okLen D∧Rd L R wr lc A lev∧Pk R w wr∧w2.heap.size≤wr.heap.size) (fun lv _=>20000 - lenV lv)
   case atStart=>exact ⟨[f,y],_,_,HX2.out,HL2.out.1,HL2.out.2,HO3.out,HD2.out,HR3.out,HP3.out,HZ3.out⟩
   case round =>
    obtain ⟨D,m,lc,hx',hm,hn',ho,hd,hr,hp,hz⟩:=hrel
    rename World=>wr
    obtain ⟨o1,c1,rfl,-,-⟩:=own_form ho
    obtain ⟨q2,-,-,-⟩:=hr.cells
    have HX':=Lh hx'
    have HM:=Lh hm
    have HN':=Lh hn'
    have HO:=Lh ho
    have HD:=Lh hd
    have HR:=Lh hr
    have HP:=Lh hp
    have HZ:=Lh hz
    clear hx' hm hn' ho hd hr hp hz
    cases hc2:isT 5 (arrow d) lc with
    | true =>
     obtain ⟨m',rfl,hm',hx2⟩:=refsF_go HX'.out HM.out hc2
     have htl:=(isT_cons' hc2).2
     have HC2:=Lh hc2
     have HM':=Lh hm'
     have HX3:=Lh hx2
     have HTL:=Lh htl
     clear hc2 hm' hx2 htl
     go_wp2_with fail
     refine (accept_mk L hL R lc lc.tail A lev (arrow d) A true _ HA.out HR (arrow_kw d) HC2 (Lh rfl)).mono ?_
     rintro e w5 ⟨rfl,hr5,hp5⟩
     have HR5:=Lh hr5
     have HP5:=Lh (HP.out.trans hp5)
     have HO5:=Lh (hp5.own HS2.out.1 HO.out)
     have HZ5:Hid (w2.heap.size≤w5.heap.size):=Lh (Nat.le_trans HZ.out hp5.size)
     clear hr5 hp5 q2
     go_wp2_with fail
     refine (ref_of L hL R lc.tail A lev _ _ HR5 (Lh rfl)).mono ?_
     rintro e w6 ⟨hp6,hx6⟩
     have HP6:=Lh (HP5.out.trans hp6)
     have HO6:=Lh (hp6.own HS2.out.1 HO5.out)
     cases hn6:refR lc.tail with
     | er c l6 =>
      rw [hn6] at hx6
      obtain rfl:=hx6
      exact ⟨rfl,Out.pn (by rw [← HX3.out,hn6];rfl) HP6.out⟩
     | ok y l6 =>
      rw [hn6] at hx6
      obtain ⟨v6,rfl,⟨rfl,ha1,ha2⟩,hr6⟩:=hx6
      have hl6:=ref_lt hn6
      have HX6:Hid (((refsF d m' l6).bnd fun t l=>.ok (D ++ [y] ++ t) l)=x):=Lh (by rw [← HX3.out,hn6];rfl)
      have HR6:=Lh hr6
      have HDy:=Lh (HD.out.snoc ⟨ha1,ha2⟩)
      have HL6:Hid (l6.length < m'∧(D ++ [y]).length+l6.length≤16386):=Lh (by
       have:=HTL.out;have:=HM'.out;have:=HN'.out
       rw [List.length_append];simp only [List.length_cons,List.length_nil];omega)
      have hdl:D.length≤1000000:=by have:=HN'.out;omega
      have hgb:w2.heap.size≤w6.heap.size:=Nat.le_trans HZ5.out hp6.size
      clear hr6 hp6 hn6 hl6 ha1 ha2
      go_wp2_with (at_builtin;refine app_pr Tryz.underlying64 info_of_clr rfl (.tmp 22) (.tmp 25) rfl w2.heap.size _ D y w6.heap.size rfl rfl rfl HO6 hdl hgb ?_;intro o7 c7 w7 own7 grow7;have HO7:=Lh own7;have HG7:=Lh grow7;clear own7 grow7)
      have hrow:∀ q,(Value.slice o1 D.length c1).ownBlock=some q→w2.heap.size≤q:=fun q hq=>(World.ownsRow.lt HO6.out q hq).1
      have HR7:=Lh (HR6.out.grown HG7.out (fun q hq=>by have:=hrow q hq;have:=HS2.out.1;omega))
      have HP7:=Lh (HP6.out.grown HG7.out (fun q hq=>by have:=hrow q hq;have:=HS2.out.2;omega))
      have HZ7:Hid (w2.heap.size≤w7.heap.size):=Lh (Nat.le_trans hgb HG7.out.size)
      clear hrow hgb
      go_roundw
      case rel=>exact ⟨D ++ [y],m',l6,HX6.out,HL6.out.1,HL6.out.2,by have:=HO7.out;simpa using this,HDy.out,HR7.out,HP7.out,HZ7.out⟩
      case measure=>simp only [lenV];have:=HN'.out;omega
    | false =>
     have HX3:=Lh (refsF_end HX'.out HM.out hc2)
     have HC2:=Lh hc2
     clear hc2
     go_wp2_with fail
     refine (accept_mk L hL R lc lc A lev (arrow d) A false _ HA.out HR (arrow_kw d) HC2 (Lh rfl)).mono ?_
     rintro e w5 ⟨rfl,hr5,hp5⟩
     have HR5:=Lh hr5
     have HP5:=Lh (HP.out.trans hp5)
     have HE:=Lh (own_selfP (lo:=w.heap.size) (hp5.own HS2.out.1 HO.out) HS2.out.2 HD.out.max)
     clear hr5 hp5 q2
     go_wp2
     go_ret
     exact Out.ok HX3.out HP5.out HE.out HR5.out
end Go.Proofs.YtgmidodmmlmmeaaGreatDoor.par
