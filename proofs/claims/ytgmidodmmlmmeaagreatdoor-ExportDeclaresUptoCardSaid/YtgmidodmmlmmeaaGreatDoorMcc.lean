/-
  Contracts and plain facts of the layers below; conditions as each theorem states them.
-/
import Derived.Test.YtgmidodmmlmmeaaGreatDoorMcb
set_option maxHeartbeats 8000000
set_option maxRecDepth 100000
namespace Go.Proofs.YtgmidodmmlmmeaaGreatDoor.att
open Go.RowKit lex tre _root_.Go.Proofs.Tryz
theorem yaU (k:Int)(s:ByteArray)(f lo hi no:Int)(w:World)(h:Hid (yo k s.data.toList=⟨f,lo,hi,no⟩)) :
    Calls Tryz.prog 172 #[.int .i64 k,.string s] w fun e w'=>e=.returned (.agg #[.int .i64 f,.int .i64 lo,.int .i64 hi,.int .i64 no])/\Below w.heap.size w w':=yl0 k s _ w h
theorem ym {w w':World}{g:Nat}{t:TypeId}{arr:Array Value}(h:blk w g t arr)(hb:Below w.heap.size w w'):blk w' g t arr:=by
 have:=yP h;unfold blk at h |-;rw[hb.block g this];exact h
theorem yk {W:World}{g o:Nat}{t:TypeId}{arr:Array Value}(h:blk W g t arr):W.frozen? ⟨g,o,none⟩=false:=by
 unfold blk at h;simp[World.frozen?,h]
theorem yg {W:World}{g o:Nat}{t:TypeId}{arr:Array Value}(h:blk W g t arr)(u:Value):blk (W.setCell ⟨g,o,none⟩ u) g t (arr.setIfInBounds o u):=by
 unfold blk at h |-;unfold World.setCell;rw[Array.getElem?_modify,if_pos rfl,h];rfl
def ruB (w:World)(g:Nat)(f lo hi no:Int):Prop:=blk w g 241 #[.int .i64 f,.int .i64 lo,.int .i64 hi,.int .i64 no]
theorem ruB.cells {w:World}{g:Nat}{f lo hi no:Int}(h:ruB w g f lo hi no):w.cell? ⟨g,0,none⟩=some (.int .i64 f)/\w.cell? ⟨g,1,none⟩=some (.int .i64 lo)/\w.cell? ⟨g,2,none⟩=some (.int .i64 hi)/\w.cell? ⟨g,3,none⟩=some (.int .i64 no) /\
    w.frozen? ⟨g,0,none⟩=false/\w.frozen? ⟨g,1,none⟩=false/\w.frozen? ⟨g,2,none⟩=false/\w.frozen? ⟨g,3,none⟩=false:=by
 unfold ruB at h;exact⟨by rw[yd h];rfl,by rw[yd h];rfl,by rw[yd h];rfl,by rw[yd h];rfl,yk h,yk h,yk h,yk h⟩
theorem yrt {l:List Pr}{k x:List UInt8}(h:yai l k=(x,true)):∃ r∈l,r.2=x:=by
 induction l with
 | nil=>cases h
 | cons a t ih =>
  rw[yae] at h
  split at h
  ·obtain⟨r,h1,h2⟩:=ih h;exact⟨r,List.mem_cons_of_mem _ h1,h2⟩
  ·split at h
   ·exact⟨a,List.mem_cons_self,(Prod.mk.inj h).1⟩
   ·cases h
theorem yck (k:Int)(v:Value)(l:List Pr)(s:ByteArray)(n:Int)(w:World)(h:Hid (Prs w v l))(hb:Hid (∀ r∈l,r.2.length<=20000))(hr:Hid (ycA k l s.data.toList=n)) :
    Calls Tryz.prog 109 #[.int .i64 k,v,.string s] w fun e w'=>e=.returned (.int .i64 n)/\Below w.heap.size w w':=by
 obtain⟨ao,cap,rfl,_,_,_⟩:=id h.out;have hn:=hr.out;unfold ycA at hn;obtain⟨f,lo,hi,no,hx⟩:∃ f lo hi no,yo k s.data.toList=⟨f,lo,hi,no⟩:=⟨_,_,_,_,rfl⟩
 have HX:=Lh hx;rw[hx] at hn;simp only at hn;clear hr hx
 by_cases hf:f≠2/\f≠3
 ·rw[if_pos hf] at hn
  subst hn;have b2:(f != 2)=true:=by rw[bne_iff_ne];exact hf.1
  have b3:(f != 3)=true:=by rw[bne_iff_ne];exact hf.2
  clear hf;go_enter func109,ntmps109;go_wp2_with fail
  refine(yaU k s f lo hi no _ HX).mono ?_;rintro e w1 ⟨rfl,hb1⟩;have HB2:=Lh (ya (al1 w1 (.cells #[.int .i64 f,.int .i64 lo,.int .i64 hi,.int .i64 no] 241)) hb1);go_wp2;go_ret;exact⟨rfl,HB2.out⟩
 rw[if_neg hf] at hn
 have bp:((f != 2)&&(f != 3))=false:=by
  by_cases e:f=2
  ·subst e;rfl
  ·by_cases e3:f=3
   ·subst e3;rfl
   ·exact absurd ⟨e,e3⟩ hf
 have hf2:f=2\/f=3:=by
  by_cases e:f=2
  ·exact Or.inl e
  ·by_cases e3:f=3
   ·exact Or.inr e3
   ·exact absurd ⟨e,e3⟩ hf
 clear hf bp;obtain⟨x,r,hg⟩:∃ x r,yai l s.data.toList=(x,r):=⟨_,_,rfl⟩
 have HG:=Lh hg;rw[hg] at hn;simp only at hn;obtain⟨b2,hb2⟩:∃ b,(f != 2)=b:=⟨_,rfl⟩
 have b3:b2=true->(f != 3)=false:=by
  intro e
  rcases hf2 with rfl | rfl
  ·rw[<- hb2] at e;cases e
  ·rfl
 clear hg hf2;cases r
 case false =>
  rw[if_pos rfl] at hn;subst hn;cases b2
  case' true=>have b3':=b3 rfl
  all_goals
   clear b3;go_enter func109,ntmps109;go_wp2_with fail
   refine(yaU k s f lo hi no _ HX).mono ?_;rintro e w1 ⟨rfl,hb1⟩;have HB2:=Lh (ya (al1 w1 (.cells #[.int .i64 f,.int .i64 lo,.int .i64 hi,.int .i64 no] 241)) hb1);have HK2:Hid (ruB (w1.alloc (.cells #[.int .i64 f,.int .i64 lo,.int .i64 hi,.int .i64 no] 241)) w1.heap.size f lo hi no):=Lh (yl w1 _ _);clear hb1;go_wp2_with fail
   generalize w1.alloc (.cells #[.int .i64 f,.int .i64 lo,.int .i64 hi,.int .i64 no] 241)=w2 at HB2 HK2 |-;generalize w1.heap.size=F at HK2 |-;refine(ydU _ l s x false w2 (Lh (h.out.keep HB2.out)) HG).mono ?_;rintro e w3 ⟨rfl,rfl⟩;obtain⟨c0,c1,c2,c3,-,-,-,-⟩:=HK2.out.cells;go_wp2;go_ret;exact⟨rfl,HB2.out⟩
 rw[if_neg (by decide)] at hn;have hxl:x.length<=20000:=by obtain⟨q,q1,q2⟩:=yrt HG.out;rw[<- q2];exact hb.out q q1
 obtain⟨m,o,hv⟩:∃ m o,yeM ⟨f,lo,hi,no⟩ x=(m,o):=⟨_,_,rfl⟩
 have HV:Hid (yeM ⟨f,lo,hi,no⟩ (bb x).data.toList=(m,o)):=Lh hv;have HXl:Hid ((bb x).size<=20000):=Lh (by show x.toArray.size<=20000;simpa using hxl);rw[hv] at hn;simp only at hn;clear hv hxl;have HN:=Lh hn;clear hn;cases b2
 case' true=>have b3':=b3 rfl
 all_goals
  clear b3;go_enter func109,ntmps109;go_wp2_with fail
  refine(yaU k s f lo hi no _ HX).mono ?_;rintro e w1 ⟨rfl,hb1⟩;have HB2:=Lh (ya (al1 w1 (.cells #[.int .i64 f,.int .i64 lo,.int .i64 hi,.int .i64 no] 241)) hb1);have HK2:Hid (ruB (w1.alloc (.cells #[.int .i64 f,.int .i64 lo,.int .i64 hi,.int .i64 no] 241)) w1.heap.size f lo hi no):=Lh (yl w1 _ _);clear hb1;go_wp2_with fail
  generalize w1.alloc (.cells #[.int .i64 f,.int .i64 lo,.int .i64 hi,.int .i64 no] 241)=w2 at HB2 HK2 |-;generalize w1.heap.size=F at HK2 |-;refine(ydU _ l s x true w2 (Lh (h.out.keep HB2.out)) HG).mono ?_;rintro e w3 ⟨rfl,rfl⟩;obtain⟨c0,c1,c2,c3,-,-,-,-⟩:=HK2.out.cells;go_wp2_with fail
  refine(ydy f lo hi no (bb x) m o w2 HXl.out HV).mono ?_;rintro e w4 ⟨rfl,hb4⟩;have HB4:=Lh (ya hb4 HB2.out);have HK4:Hid (ruB w4 F f lo hi no):=Lh (ym HK2.out hb4);clear hb4 c0 c1 c2 c3 HK2;obtain⟨c0,c1,c2,c3,-,-,-,-⟩:=HK4.out.cells;cases o
  ·have hn:=HN.out
   rw[if_neg (by decide)] at hn;subst hn;go_wp2;go_ret;exact⟨rfl,HB4.out⟩
  ·have hn:=HN.out
   rw[if_pos rfl] at hn;subst hn;go_wp2;go_ret;exact⟨rfl,HB4.out⟩
def Brow (w:World)(B:Nat)(v:Value)(l:List ByteArray):Prop:=w.ownsRow B 9 1 v l.length (l.map Value.string)
theorem yme {w:World}{ops:Array Oper}{rest:List Oper}{o:Oper}{a:Act}{Q:Exit->Act->World->Prop}(hg:o.guard=none)(p y:Operand)(ho:o.op=.call { callee:=.builtin .append,args:=#[p,y],argTypes:=#[50,50] })
    (B:Nat) (v:Value) (l:List ByteArray) (x:ByteArray) (H:Nat) (hH:w.heap.size=H) (hs:a.eval p=v) (hx:a.eval y=.slice (some ⟨H,0,none⟩) 1 1) (h:Hid (Brow w B v l)) (hl:l.length<=1000000) (hB:B<=w.heap.size)
    (hK:∀ ao cap w',Brow w' B (.slice ao (l.length+1) cap) (l++[x])->w.grownBy w' v.ownBlock->wpList Tryz.prog ops Q rest (a.put o.dst (.slice ao (l.length+1) cap)) w'):wpList Tryz.prog ops Q (o::rest) a (w.alloc (.cells #[.string x] 9)):=by
 subst hH;obtain⟨i0,hi,hz0,hz1,hz2⟩:=yfi;refine wpList_append_own _ hg p y 50 ho B 9 i0 (.string ⟨#[]⟩) 1 16 underlying50 hi hz0 hz1 hz2 rfl (by decide) v l.length _ hs (World.ownsRow.alloc h.out _) ⟨w.heap.size,0,none⟩ 1 1 [.string x] hx rfl ?_ (by simp[Value.oneCell']) (by unfold maxLen;omega) (by omega) (by simp;omega) ?_
 ·intro j u hj
  rw[add_at,Nat.zero_add,yd (yl w #[.string x] 9),<- hj];simp
 ·intro v' w' hown hgrow _
  obtain⟨ao,cap,rfl,_,_⟩:=yu hown;refine hK ao cap w' ?_ ?_
  ·unfold Brow;rw[List.length_append,List.map_append];exact hown
  ·refine⟨hgrow.os,hgrow.tape,hgrow.output,Nat.le_trans (by simp) hgrow.size,fun k hk hne=>?_⟩
   rw[hgrow.block k (by simp;omega) hne,heap_alloc_old w _ (h:=hk)]
def toL (x:ByteArray):List UInt8:=x.data.toList
theorem yoE (s:ByteArray)(a b:Nat):(s.extract a b).data.toList=(s.data.toList.drop a).take (b-a):=by
 rw[ByteArray.data_extract,Array.toList_extract,List.extract_eq_take_drop]
theorem at_L (s:ByteArray)(i:Nat)(h:i<s.size):s.data.toList.drop i=s[i]::s.data.toList.drop (i+1):=by
 rw[List.drop_eq_getElem_cons (by simpa using h)];rfl
theorem yib (L:List UInt8)(f i:Nat)(h:i<L.length)(hf:f<=i):(L.drop f).take (i+1-f)=(L.drop f).take (i-f)++[L[i]]:=by
 rw[show i+1-f=(i-f)+1 by omega,List.take_succ_eq_append_getElem (by rw[List.length_drop];omega)];simp[show f+(i-f)=i by omega]
theorem ymf (s:ByteArray)(w:World)(hs:s.size<=20000) :
    Calls Tryz.prog 224 #[.string s] w fun e w'=>∃ ao cap D,e=.returned (.slice ao D.length cap)/\Brow w' w.heap.size (.slice ao D.length cap) D/\D.map toL=yeO s.data.toList/\Below w.heap.size w w':=by
 obtain⟨R,hR⟩:∃ R,yeO s.data.toList=R:=⟨_,rfl⟩
 have HR:Hid (yal ((s.data.toList.drop 0).take (0-0)) (s.data.toList.drop 0)=R):=Lh (by rw[<- hR];rfl);rw[hR];have HO:Hid (Brow (w.alloc (.cells #[] 9)) w.heap.size (.slice (some ⟨w.heap.size,0,none⟩) 0 0) []):=Lh (World.ownsRow_made (base:=w.heap.size) (e:=9) (size:=1) w #[] 0 (Nat.le_refl _) (by decide) rfl);have HB:=Lh (al1 w (.cells #[] 9));clear hR;go_enter func224,ntmps224;go_wp2_with fail
 generalize w.alloc (.cells #[] 9)=w0 at HO HB |-
 go_loopw [3,4,5] (fun ov fv iv wr=>∃ (f i:Nat) (D:List ByteArray) (q:Option Addr) (c:Nat),ov=.slice q D.length c/\fv=.int .i64 f/\iv=.int .i64 i/\f<=i/\i<=s.size/\D.length<=i/\D.map toL++yal ((s.data.toList.drop f).take (i-f)) (s.data.toList.drop i)=R/\Brow wr w.heap.size (.slice q D.length c) D/\Below w.heap.size w wr) (fun _ _ iv _=>s.size-(intOf iv).toNat)
 case atStart=>exact⟨0,0,[],_,0,rfl,rfl,rfl,Nat.le_refl _,Nat.zero_le _,Nat.zero_le _,HR.out,HO.out,HB.out⟩
 case round =>
  obtain⟨f,i,D,q,c,rfl,rfl,rfl,hfi,hi,hD,hfe,hown,hbel⟩:=hrel
  rename World=>wr
  have HOw:=Lh hown;have HBw:=Lh hbel;have hdl:D.length<=1000000:=by omega
  have hgb:w.heap.size<=wr.heap.size:=hbel.size;clear HO HB HR hown hbel;have hsl:s.data.toList.length=s.size:=by simp
  by_cases hlt:i+1<s.size
  ·rw[at_L s i (by omega),at_L s (i+1) hlt] at hfe
   have hta:=yib s.data.toList f i (by omega) hfi;have hgi:s.data.toList[i]'(by omega)=s[i]:=rfl;obtain⟨x,hx⟩:∃ x,s[i]'(by omega)=x:=⟨_,rfl⟩
   obtain⟨y,hy⟩:∃ y,s[i+1]'hlt=y:=⟨_,rfl⟩
   by_cases hc:x=44/\y=32
   ·rw[hx,hy] at hfe
    have hp:yal ((s.data.toList.drop f).take (i-f)) (x::y::s.data.toList.drop (i+1+1))=(s.data.toList.drop f).take (i-f)::yal [] (s.data.toList.drop (i+1+1)):=by rw[yal,if_pos hc]
    rw[hp] at hfe;have HF:=Lh hfe;have b1:((s[i].toNat:Int)==44)=true:=by rw[hx,hc.1];rfl
    have b2:((s[i+1].toNat:Int)==32)=true:=by rw[hy,hc.2];rfl
    have HX:Hid ((s.extract f i).data.toList=(s.data.toList.drop f).take (i-f)):=Lh (yoE s f i);clear hp hfe hx hy hc hta hgi
    go_wp2_with (at_builtin;refine yme rfl (.tmp 23) (.tmp 28) rfl w.heap.size _ D (s.extract f i) _ rfl rfl rfl HOw hdl hgb ?_;intro oz cz wz own7 grow7;have HOz:=Lh own7;have HGz:=Lh grow7;clear own7 grow7)
    have HLz:Hid (Below w.heap.size w wz):=Lh (yak HBw.out HGz.out (fun p hp=>(World.ownsRow.lt HOw.out p hp).1) hgb);have hlz:(D++[s.extract f i]).length=D.length+1:=by simp
    have HFz:Hid ((D++[s.extract f i]).map toL++yal ((s.data.toList.drop (i+2)).take (i+2-(i+2))) (s.data.toList.drop (i+2))=R):=Lh (by
     rw[<- HF.out,List.map_append,Nat.sub_self,List.take_zero,List.append_assoc]
     show _++([toL (s.extract f i)]++_)=_
     unfold toL;rw[HX.out];rfl)
    go_roundw
    case rel=>exact⟨i+2,i+2,D++[s.extract f i],oz,cz,by rw[hlz],by go_num,by go_num,Nat.le_refl _,by omega,by rw[hlz];omega,HFz.out,by rw[hlz];exact HOz.out,HLz.out⟩
    case measure=>simp[intOf];omega
   ·rw[hx,hy] at hfe
    have hp:yal ((s.data.toList.drop f).take (i-f)) (x::y::s.data.toList.drop (i+1+1))=yal ((s.data.toList.drop f).take (i-f)++[x]) (y::s.data.toList.drop (i+1+1)):=by rw[yal,if_neg hc]
    rw[hp,<- hx,<- hgi,<- hta,<- hy,<- at_L s (i+1) hlt] at hfe;have HF:=Lh hfe;obtain⟨q1,hq1⟩:∃ b,((s[i].toNat:Int)==44)=b:=⟨_,rfl⟩
    obtain⟨q2,hq2⟩:∃ b,((s[i+1].toNat:Int)==32)=b:=⟨_,rfl⟩
    have hq:q1=true->q2=false:=by
     intro e;rw[<- hq2,beq_eq_false_iff_ne];intro e2;rw[<- hq1,beq_iff_eq] at e;refine hc ⟨?_,?_⟩
     ·rw[<- hx];exact UInt8.toNat_inj.1 (by simpa using (Int.ofNat.inj e))
     ·rw[<- hy];exact UInt8.toNat_inj.1 (by simpa using (Int.ofNat.inj e2))
    clear hp hfe hx hy hc hta hgi;cases q1
    ·go_wp2
     go_roundw
     case rel=>exact⟨f,i+1,D,q,c,rfl,rfl,by go_num,by omega,by omega,by omega,HF.out,HOw.out,HBw.out⟩
     case measure=>simp[intOf];omega
    ·have hq':=hq rfl
     rw[hq'] at hq2;go_wp2
     go_roundw
     case rel=>exact⟨f,i+1,D,q,c,rfl,rfl,by go_num,by omega,by omega,by omega,HF.out,HOw.out,HBw.out⟩
     case measure=>simp[intOf];omega
  ·have hend:yal ((s.data.toList.drop f).take (i-f)) (s.data.toList.drop i)=[s.data.toList.drop f]:=by
     by_cases h1:i=s.size
     ·subst h1
      rw[List.drop_of_length_le (i:=s.size) (l:=s.data.toList) (by omega),List.take_of_length_le (by rw[List.length_drop];omega)];rfl
     ·have h2:i<s.size:=by omega
      have hta:=yib s.data.toList f i (by omega) hfi;rw[at_L s i h2,List.drop_of_length_le (show s.data.toList.length<=i+1 by omega)]
      show [(s.data.toList.drop f).take (i-f)++[s[i]]]=_
      rw[show s[i]=s.data.toList[i]'(by omega) from rfl,<- hta,List.take_of_length_le (by rw[List.length_drop];omega)]
   rw[hend] at hfe;have HF:=Lh hfe;clear hend hfe;have HX:Hid ((s.extract f s.size).data.toList=s.data.toList.drop f):=Lh (by rw[yoE,List.take_of_length_le (by rw[List.length_drop];omega)])
   go_wp2_with (at_builtin;refine yme rfl (.tmp 35) (.tmp 39) rfl w.heap.size _ D (s.extract f s.size) _ rfl rfl rfl HOw hdl hgb ?_;intro oz cz wz own7 grow7;have HOz:=Lh own7;have HGz:=Lh grow7;clear own7 grow7)
   have HLz:Hid (Below w.heap.size w wz):=Lh (yak HBw.out HGz.out (fun p hp=>(World.ownsRow.lt HOw.out p hp).1) hgb);have hlz:(D++[s.extract f s.size]).length=D.length+1:=by simp
   go_ret;refine⟨oz,cz,D++[s.extract f s.size],by rw[hlz];rfl,by rw[hlz];exact HOz.out,?_,HLz.out⟩;rw[<- HF.out,List.map_append]
   show _++[toL (s.extract f s.size)]=_
   unfold toL;rw[HX.out]
theorem ad0 (b k:Nat):(⟨b,0,none⟩:Addr).add k=⟨b,k,none⟩:=by
 unfold Addr.add;split
 ·subst_vars;rfl
 ·simp
theorem yqx (w:World)(l:List (List UInt8))(hl:l.length<=maxLen)(t:TypeId):Nl (w.alloc (.cells (l.map fun x=>.string (bb x)).toArray t)) (.slice (some ⟨w.heap.size,0,none⟩) l.length l.length) l:=by
 refine⟨_,l.length,rfl,Nat.le_refl _,hl,fun _=>⟨_,rfl,fun i hi=>?_⟩⟩;have h:=heap_alloc_new w (.cells (l.map fun x=>Value.string (bb x)).toArray t);rw[ad0];unfold World.cell?;simp only[h];simp[hi]
theorem yjS (s x:List UInt8)(t:List (List UInt8))(i:Int):yiL s (x::t) i=if x=s then i else yiL s t (i+1):=rfl
theorem yoF (s:ByteArray)(n:Int)(w:World)(hr:Hid (yiL s.data.toList ya6 0=n)) :
    Calls Tryz.prog 223 #[.string s] w fun e w'=>e=.returned (.int .i64 n)/\Below w.heap.size w w':=by
 have hlit:=yqx w ya6 (by decide) 9;have hn:ya6.length=5:=rfl;have HL:Hid (Nl (w.alloc (.cells #[.string ⟨#[108,97,121,101,114,101,100]⟩,.string ⟨#[111,114,116,104,111,103,111,110,97,108]⟩,.string ⟨#[115,116,114,97,105,103,104,116]⟩,.string ⟨#[116,105,100,121]⟩,.string ⟨#[114,97,100,105,97,108]⟩] 9)) (.slice (some ⟨w.heap.size,0,none⟩) 5 5) ya6):=Lh hlit;have HB:=Lh (al1 w (.cells #[.string ⟨#[108,97,121,101,114,101,100]⟩,.string ⟨#[111,114,116,104,111,103,111,110,97,108]⟩,.string ⟨#[115,116,114,97,105,103,104,116]⟩,.string ⟨#[116,105,100,121]⟩,.string ⟨#[114,97,100,105,97,108]⟩] 9));have HN:=Lh hn;clear hlit hn;go_enter func223,ntmps223;go_wp2_with fail
 generalize w.alloc (.cells #[.string ⟨#[108,97,121,101,114,101,100]⟩,.string ⟨#[111,114,116,104,111,103,111,110,97,108]⟩,.string ⟨#[115,116,114,97,105,103,104,116]⟩,.string ⟨#[116,105,100,121]⟩,.string ⟨#[114,97,100,105,97,108]⟩] 9)=w0 at HL HB |-
 go_loop [4] (fun iv=>∃ k:Nat,iv=.int .i64 k/\k<=5/\yiL s.data.toList (ya6.drop k) k=n) (fun iv=>5-(intOf iv).toNat)
 case atStart=>exact⟨0,rfl,Nat.zero_le _,hr.out⟩
 case round =>
  obtain⟨k,rfl,hk,hfe⟩:=hrel
  by_cases hlt:k<5
  ·obtain⟨A,e,hcell⟩:=HL.out.get (i:=k) (by rw[HN.out];exact hlt)
   cases e
   rw[List.drop_eq_getElem_cons (by rw[HN.out];exact hlt),yjS] at hfe;obtain⟨y,hy⟩:∃ y,ya6[k]'(by rw[HN.out];exact hlt)=y:=⟨_,rfl⟩
   rw[hy] at hfe hcell;rw[ad0] at hcell;have i0:(0:Int)<=(k:Int):=by omega
   have i1:(k:Int)<5:=by omega
   obtain⟨Y,hY⟩:∃ Y,bb y=Y:=⟨_,rfl⟩
   rw[hY] at hcell;have hY2:Y.data.toList=y:=by rw[<- hY]
   by_cases hxy:y=s.data.toList
   ·have b1:(Y.toList==s.toList)=true:=by rw[ByteArray.toList_eq,ByteArray.toList_eq,hY2,beq_iff_eq];exact hxy
    rw[if_pos hxy] at hfe;subst hfe;clear hy hY hY2 hxy HL;go_wp2;go_ret;exact⟨rfl,HB.out⟩
   ·have b1:(Y.toList==s.toList)=false:=by rw[ByteArray.toList_eq,ByteArray.toList_eq,hY2,beq_eq_false_iff_ne];exact hxy
    rw[if_neg hxy] at hfe;have HF:=Lh hfe;clear hy hY hY2 hxy hfe;go_wp2
    go_round
    case rel=>exact⟨k+1,by go_num,by omega,HF.out⟩
    case measure=>simp[intOf];omega
  ·obtain rfl:k=5:=by omega
   have he:(-1:Int)=n:=hfe;subst he;go_wp2;go_ret;exact⟨rfl,HB.out⟩
theorem ygP (s:ByteArray)(n:Int)(w:World)(hr:Hid (yiL s.data.toList yeN 0=n)) :
    Calls Tryz.prog 225 #[.string s] w fun e w'=>e=.returned (.int .i64 n)/\Below w.heap.size w w':=by
 have hlit:=yqx w yeN (by decide) 9;have hn:yeN.length=4:=rfl;have HL:Hid (Nl (w.alloc (.cells #[.string ⟨#[116,111,112]⟩,.string ⟨#[114,105,103,104,116]⟩,.string ⟨#[98,111,116,116,111,109]⟩,.string ⟨#[108,101,102,116]⟩] 9)) (.slice (some ⟨w.heap.size,0,none⟩) 4 4) yeN):=Lh hlit;have HB:=Lh (al1 w (.cells #[.string ⟨#[116,111,112]⟩,.string ⟨#[114,105,103,104,116]⟩,.string ⟨#[98,111,116,116,111,109]⟩,.string ⟨#[108,101,102,116]⟩] 9));have HN:=Lh hn;clear hlit hn;go_enter func225,ntmps225;go_wp2_with fail
 generalize w.alloc (.cells #[.string ⟨#[116,111,112]⟩,.string ⟨#[114,105,103,104,116]⟩,.string ⟨#[98,111,116,116,111,109]⟩,.string ⟨#[108,101,102,116]⟩] 9)=w0 at HL HB |-
 go_loop [4] (fun iv=>∃ k:Nat,iv=.int .i64 k/\k<=4/\yiL s.data.toList (yeN.drop k) k=n) (fun iv=>4-(intOf iv).toNat)
 case atStart=>exact⟨0,rfl,Nat.zero_le _,hr.out⟩
 case round =>
  obtain⟨k,rfl,hk,hfe⟩:=hrel
  by_cases hlt:k<4
  ·obtain⟨A,e,hcell⟩:=HL.out.get (i:=k) (by rw[HN.out];exact hlt)
   cases e
   rw[List.drop_eq_getElem_cons (by rw[HN.out];exact hlt),yjS] at hfe;obtain⟨y,hy⟩:∃ y,yeN[k]'(by rw[HN.out];exact hlt)=y:=⟨_,rfl⟩
   rw[hy] at hfe hcell;rw[ad0] at hcell;have i0:(0:Int)<=(k:Int):=by omega
   have i1:(k:Int)<4:=by omega
   obtain⟨Y,hY⟩:∃ Y,bb y=Y:=⟨_,rfl⟩
   rw[hY] at hcell;have hY2:Y.data.toList=y:=by rw[<- hY]
   by_cases hxy:y=s.data.toList
   ·have b1:(Y.toList==s.toList)=true:=by rw[ByteArray.toList_eq,ByteArray.toList_eq,hY2,beq_iff_eq];exact hxy
    rw[if_pos hxy] at hfe;subst hfe;clear hy hY hY2 hxy HL;go_wp2;go_ret;exact⟨rfl,HB.out⟩
   ·have b1:(Y.toList==s.toList)=false:=by rw[ByteArray.toList_eq,ByteArray.toList_eq,hY2,beq_eq_false_iff_ne];exact hxy
    rw[if_neg hxy] at hfe;have HF:=Lh hfe;clear hy hY hY2 hxy hfe;go_wp2
    go_round
    case rel=>exact⟨k+1,by go_num,by omega,HF.out⟩
    case measure=>simp[intOf];omega
  ·obtain rfl:k=4:=by omega
   have he:(-1:Int)=n:=hfe;subst he;go_wp2;go_ret;exact⟨rfl,HB.out⟩
abbrev Pt:=List UInt8 × Int
def poC (p:Pt):List Value:=[.string (bb p.1),.int .i64 p.2]
def poAt (w:World)(A:Addr)(i:Nat)(p:Pt):Prop:=w.cell? (A.add (i*2))=some (.string (bb p.1))/\w.cell? ⟨(A.add (i*2)).block,(A.add (i*2)).off+1,none⟩=some (.int .i64 p.2)
def Pos (w:World)(v:Value)(l:List Pt):Prop:=∃ (ao:Option Addr) (cap:Nat),v=.slice ao l.length cap/\l.length<=cap/\cap<=maxLen/\(0<l.length->∃ A,ao=some A/\∀ i (h:i<l.length),poAt w A i l[i])
theorem Pos.nil (w:World):Pos w (.slice none 0 0) []:=⟨none,0,rfl,Nat.le_refl _,by decide,fun h=>absurd h (by simp)⟩
theorem Pos.get {w:World}{ao:Option Addr}{n cap:Nat}{l:List Pt}(h:Pos w (.slice ao n cap) l){k:Nat}(hk:k<l.length):∃ A,ao=some A/\poAt w A k l[k]:=by
 obtain⟨ao',cap',e,_,_,hA⟩:=h;cases e
 obtain⟨A,rfl,h2⟩:=hA (by omega);exact⟨A,rfl,h2 k hk⟩
def Prow (w:World)(B:Nat)(v:Value)(l:List Pt):Prop:=w.ownsRow B 192 2 v l.length (l.flatMap poC)
theorem Prow.pos {w:World}{B:Nat}{v:Value}{l:List Pt}(h:Prow w B v l):Pos w v l:=by
 unfold Prow at h
 by_cases h0:l.length=0
 ·obtain⟨ao,cap,rfl,h1,h2⟩:=yu h
  exact⟨ao,cap,rfl,h1,h2,fun hn=>by omega⟩
 ·obtain⟨g,cap,arr,rfl,hB',hk,h1,h2,h3⟩:=yaE h (by omega)
  refine⟨_,cap,rfl,h1,h2,fun _=>⟨_,rfl,fun i hi=>?_⟩⟩;have e0:=yac poC 2 (fun _=>rfl) l i 0 hi (by decide);have e1:=yac poC 2 (fun _=>rfl) l i 1 hi (by decide);refine⟨?_,?_⟩
  ·rw[add_at,Nat.zero_add,yd hk,<- Nat.add_zero (i*2),h3 _ (by omega)];exact e0
  ·rw[add_at]
   show w.cell? ⟨g,0+i*2+1,none⟩=_
   rw[Nat.zero_add,yd hk,h3 _ (by omega)];exact e1
structure PosT (w:World)(v:Value)(l:List Pt):Prop where
 pos:Pos w v l
 typ:∀ g,v.ownBlock=some g->∃ arr fr,w.heap[g]?=some (.cells arr 192 fr)
theorem PosT.nil (w:World):PosT w (.slice none 0 0) []:=⟨Pos.nil w,fun g hg=>by cases hg⟩
theorem Prow.posT {w:World}{B:Nat}{v:Value}{l:List Pt}(h:Prow w B v l):PosT w v l:=by
 refine⟨h.pos,fun g hg=>?_⟩;unfold Prow at h
 rcases h.2 with ⟨rfl,_⟩ | ⟨g',cap,cur,rfl,_,hk,_⟩
 ·cases hg
 ·obtain rfl:g'=g:=Option.some.inj hg
  exact⟨_,_,hk⟩
theorem yoG:(Tryz.prog.info? 192).map (fun i=>(i.zero,i.size,i.bytes))=some (some (.agg #[.string ⟨#[]⟩,.int .i64 0]),2,24):=by kernel_rfl
theorem yiV:∃ i,Tryz.prog.info? 192=some i/\i.zero=some (.agg #[.string ⟨#[]⟩,.int .i64 0])/\i.size=2/\i.bytes=24:=by
 have h:=yoG
 cases hq:Tryz.prog.info? 192 with
 | none=>rw[hq] at h;cases h
 | some i =>
  rw[hq] at h;simp only[Option.map_some,Option.some.injEq,Prod.mk.injEq] at h;exact⟨i,rfl,h.1,h.2.1,h.2.2⟩
theorem ys4 {w:World}{ops:Array Oper}{rest:List Oper}{o:Oper}{a:Act}{Q:Exit->Act->World->Prop}(hg:o.guard=none)(p y:Operand)(ho:o.op=.call { callee:=.builtin .append,args:=#[p,y],argTypes:=#[57,57] })
    (B:Nat) (v:Value) (l:List Pt) (x:ByteArray) (d:Int) (H:Nat) (hH:w.heap.size=H) (hs:a.eval p=v) (hx:a.eval y=.slice (some ⟨H,0,none⟩) 1 1) (h:Hid (Prow w B v l)) (hl:l.length<=1000000) (hB:B<=w.heap.size)
    (hK:∀ ao cap w',Prow w' B (.slice ao (l.length+1) cap) (l++[(x.data.toList,d)])->w.grownBy w' v.ownBlock->wpList Tryz.prog ops Q rest (a.put o.dst (.slice ao (l.length+1) cap)) w'):wpList Tryz.prog ops Q (o::rest) a (w.alloc (.cells #[.string x,.int .i64 d] 192)):=by
 subst hH;obtain⟨i0,hi,hz0,hz1,hz2⟩:=yiV;refine wpList_append_own _ hg p y 57 ho B 192 i0 _ 2 24 underlying57 hi hz0 hz1 hz2 rfl (by decide) v l.length _ hs (World.ownsRow.alloc h.out _) ⟨w.heap.size,0,none⟩ 1 1 [.string x,.int .i64 d] hx rfl ?_ (by simp[Value.oneCell']) (by unfold maxLen;omega) (by omega) (by simp;omega) ?_
 ·intro j u hj
  rw[add_at,Nat.zero_add,yd (yl w #[.string x,.int .i64 d] 192),<- hj];simp
 ·intro v' w' hown hgrow _
  obtain⟨ao,cap,rfl,_,_⟩:=yu hown;refine hK ao cap w' ?_ ?_
  ·unfold Prow
   rw[List.length_append,List.flatMap_append];have hx:bb x.data.toList=x:=by simp[bb]
   show World.ownsRow _ _ _ _ _ _ (_++(poC (x.data.toList,d)++[]))
   unfold poC;simp only[hx,List.append_nil];exact hown
  ·refine⟨hgrow.os,hgrow.tape,hgrow.output,Nat.le_trans (by simp) hgrow.size,fun k hk hne=>?_⟩
   rw[hgrow.block k (by simp;omega) hne,heap_alloc_old w _ (h:=hk)]
def ymg (s:List UInt8):Nat:=(s.takeWhile (·≠32)).length
theorem ys5 (s:List UInt8):ymg s<=s.length:=ybm _ s
theorem ys6:∀ (s:List UInt8) (k:Nat) (h:k<s.length),(s[k]=32->ymg s<=k)/\(s[k]≠32->ymg s≠k):=by
 intro s
 induction s with
 | nil=>intro k h;simp at h
 | cons c t ih =>
  intro k h;unfold ymg at ih |-;rw[List.takeWhile_cons]
  cases k with
  | zero =>
   constructor
   ·intro e;rw[if_neg (by simpa using e)];exact Nat.le_refl _
   ·intro e;rw[if_pos (by simpa using e)];simp
  | succ k =>
   have hk:k<t.length:=by simpa using h
   obtain⟨i1,i2⟩:=ih k hk
   constructor
   ·intro e
    split
    ·have:=i1 e;simp only[List.length_cons];omega
    ·simp
   ·intro e
    split
    ·have:=i2 e;simp only[List.length_cons];omega
    ·simp
theorem yoH {s:List UInt8}(h:ymg s<s.length):yql s=some (s.take (ymg s),s.drop (ymg s+1)):=by
 unfold yql ymg at *;rw[if_pos h,yc1]
theorem yoI {s:List UInt8}(h:¬ ymg s<s.length):yql s=none:=by
 unfold yql ymg at *;rw[if_neg h]
theorem ymh:∀ (n:Nat) (L c:List UInt8),L.length<=n->∀ x∈yal c L,x.length<=c.length+L.length:=by
 intro n
 induction n with
 | zero =>
  intro L c h x hx;obtain rfl:L=[]:=List.length_eq_zero_iff.1 (by omega);rw[yal] at hx;rw[List.mem_singleton.1 hx];omega
 | succ n ih =>
  intro L c h x hx
  match L,h,hx with
  | [],_,hx=>rw[yal] at hx;rw[List.mem_singleton.1 hx];omega
  | [a],_,hx=>rw[yal] at hx;rw[List.mem_singleton.1 hx];simp
  | a::b::t,h,hx =>
   simp only[List.length_cons] at h;rw[yal] at hx
   split at hx
   ·rcases List.mem_cons.1 hx with rfl | hx
    ·omega
    ·have:=ih t [] (by omega) x hx;simp only[List.length_nil,List.length_cons] at this |-;omega
   ·have:=ih (b::t) (c++[a]) (by simp only[List.length_cons];omega) x hx
    simp only[List.length_append,List.length_cons,List.length_nil] at this |-;omega
theorem Brow.get {w:World}{B:Nat}{ao:Option Addr}{n cap:Nat}{l:List ByteArray}(h:Brow w B (.slice ao n cap) l){k:Nat}(hk:k<l.length):∃ g,ao=some ⟨g,0,none⟩/\n=l.length/\w.cell? ⟨g,k,none⟩=some (.string l[k]):=by
 unfold Brow at h;obtain⟨g,cap',arr,e,hB',hb,h1,h2,h3⟩:=yaE h (by omega);cases e
 refine⟨g,rfl,rfl,?_⟩;rw[yd hb,h3 k (by omega)];rw[List.getElem?_map,List.getElem?_eq_getElem hk];rfl
theorem ys7 {w:World}{B B' z n:Nat}{t:TypeId}{v:Value}{xs:List Value}(h:w.ownsRow B t z v n xs)(hB:B'<=B):w.ownsRow B' t z v n xs:=by
 obtain⟨h1,h2⟩:=h;refine⟨h1,h2.imp id ?_⟩;rintro⟨g,cap,cur,rfl,hg,h3⟩;exact⟨g,cap,cur,rfl,Nat.le_trans hB hg,h3⟩
theorem own_keep {w w':World}{B z n:Nat}{t:TypeId}{v:Value}{xs:List Value}(h:w.ownsRow B t z v n xs)(hb:Below w.heap.size w w'):w'.ownsRow B t z v n xs:=by
 obtain⟨h1,h2⟩:=h;refine⟨h1,h2.imp id ?_⟩;rintro⟨g,cap,cur,rfl,hg,hc,h3⟩
 have hlt:g<w.heap.size:=by
  rcases Nat.lt_or_ge g w.heap.size with h | h
  ·exact h
  ·rw[Array.getElem?_eq_none (by omega)] at hc;cases hc
 exact⟨g,cap,cur,rfl,hg,by rw[hb.block g hlt];exact hc,h3⟩
theorem ykP (s:List UInt8)(t:List (List UInt8))(o:List Pt):ybM (s::t) o=if (ybB s).1≠0 then ([],(ybB s).1) else if o.any (fun p=>decide (p.1=(ybB s).2.1)) then ([],6) else if o.length=8 then ([],2) else ybM t (o++[((ybB s).2.1,(ybB s).2.2)]):=rfl
theorem ydV (s:ByteArray)(l:List Pt)(e0:Int)(w:World)(hs:s.size<=20000)(hr:Hid (yaQ s.data.toList=(l,e0))) :
    Calls Tryz.prog 171 #[.string s] w fun e w'=>∃ v,e=.returned (.tuple #[v,.int .i64 e0])/\PosT w' v l/\Below w.heap.size w w':=by
 have hn:=hr.out;unfold yaQ at hn;have HB:=Lh (al1 w (.cells #[] 192));have HO:Hid (Prow (w.alloc (.cells #[] 192)) w.heap.size (.slice (some ⟨w.heap.size,0,none⟩) 0 0) []):=Lh (World.ownsRow_made (base:=w.heap.size) (e:=192) (size:=2) w #[] 0 (Nat.le_refl _) (by decide) rfl);clear hr
 by_cases h0:s.data.toList=[]
 ·rw[if_pos h0] at hn
  cases hn
  have b0:(s.toList==([]:List UInt8))=true:=yaZ h0;go_enter func171,ntmps171;go_wp2
  go_ret2
  exact⟨_,rfl,HO.out.posT,HB.out⟩
 rw[if_neg h0] at hn;have b0:(s.toList==([]:List UInt8))=false:=yU h0;have HN:=Lh hn;clear h0 hn;go_enter func171,ntmps171;go_wp2_with fail
 generalize w.alloc (.cells #[] 192)=w0 at HO HB |-;refine(ymf s w0 hs).mono ?_;rintro e w1 ⟨po,pc,P,rfl,hP,hPs,hb1⟩;have HB1:=Lh (ya hb1 HB.out);have HP:Hid (Brow w1 w.heap.size (.slice po P.length pc) P):=Lh (ys7 hP HB.out.size);have HO1:Hid (Prow w1 w.heap.size (.slice (some ⟨w.heap.size,0,none⟩) 0 0) []):=Lh (own_keep HO.out hb1);have HF0:Hid (ybM ((P.drop 0).map toL) []=(l,e0)):=Lh (by rw[List.drop_zero,hPs];exact HN.out);have HPl:Hid (P.length<=maxLen):=Lh (by obtain⟨ao,cap,e,h1,h2⟩:=yu hP;omega)
 have HPs:Hid (∀ t∈P,t.size<=20000):=Lh (fun t ht=>by
  have h1:toL t∈yeO s.data.toList:=by rw[<- hPs];exact List.mem_map_of_mem ht
  have h2:=ymh _ _ _ (Nat.le_refl _) _ h1;have h3:(toL t).length=t.size:=by unfold toL;simp
  have h4:s.data.toList.length=s.size:=by simp
  simp only[List.length_nil] at h2
  omega)
 have hplm:P.length<=9223372036854775807:=by have:=HPl.out;unfold maxLen at this;omega
 clear hP hPs hb1 HO HB HN;go_wp2_with fail
 go_loopw [4,6] (fun ov iv wr=>∃ (k:Nat) (D:List Pt) (q:Option Addr) (c:Nat),ov=.slice q D.length c/\iv=.int .i64 k/\k<=P.length/\D.length<=8/\ybM ((P.drop k).map toL) D=(l,e0)/\Prow wr w.heap.size (.slice q D.length c) D/\Brow wr w.heap.size (.slice po P.length pc) P/\Below w.heap.size w wr) (fun _ iv _=>P.length-(intOf iv).toNat)
 case atStart=>exact⟨0,[],_,0,rfl,rfl,Nat.zero_le _,Nat.zero_le _,HF0.out,HO1.out,HP.out,HB1.out⟩
 case round =>
  obtain⟨k,D,q,c,rfl,rfl,hk,hD,hfe,hown,hpr,hbel⟩:=hrel
  rename World=>wr
  have HOw:=Lh hown;have HPw:=Lh hpr;have HBw:=Lh hbel;have hgb:w.heap.size<=wr.heap.size:=hbel.size;clear HO1 HP HB1 HF0 hown hpr hbel
  by_cases hlt:k<P.length
  case neg =>
   obtain rfl:k=P.length:=by omega
   rw[List.drop_length] at hfe;cases hfe
   go_wp2
   go_ret2
   exact⟨_,rfl,HOw.out.posT,HBw.out⟩
  obtain⟨g,e,-,hcell⟩:=HPw.out.get hlt;cases e
  obtain⟨t,ht⟩:∃ t,P[k]=t:=⟨_,rfl⟩
  have hts:=HPs.out P[k] (List.getElem_mem hlt);rw[List.drop_eq_getElem_cons hlt,List.map_cons,ht,ykP] at hfe;rw[ht] at hcell hts;have htl:(toL t).length=t.size:=by unfold toL;simp
  have i0:(0:Int)<=(k:Int):=by omega
  have i1:(k:Int)<(P.length:Int):=by omega
  obtain⟨G,hG⟩:∃ G,ymg (toL t)=G:=⟨_,rfl⟩
  have hGl:G<=t.size:=by rw[<- hG,<- htl];exact ys5 _
  have HGA:Hid (∀ j (h:j<t.size),(t[j]=32->G<=j)/\(t[j]≠32->G≠j)):=Lh (fun j h=>by have:=ys6 (toL t) j (by rw[htl];exact h);rw[hG] at this;exact this);have HFE:=Lh hfe;have HG:=Lh hG;have HTL:=Lh htl;clear ht hfe hG htl;go_wp2_with fail
  go_loop [8,9] (fun gv kv=>∃ (j:Nat),kv=.int .i64 j/\j<=t.size/\gv=.int .i64 (if G<j then (G:Int) else -1)) (fun _ kv=>t.size-(intOf kv).toNat)
  case atStart=>exact⟨0,rfl,Nat.zero_le _,by rw[if_neg (by omega)]⟩
  case round =>
   obtain⟨j,rfl,hj,rfl⟩:=hrel
   by_cases hjt:j<t.size
   ·obtain⟨g1,g2⟩:=HGA.out j hjt
    obtain⟨b1,hb1⟩:∃ b,((t[j].toNat:Int)==32)=b:=⟨_,rfl⟩
    have hb1':(b1=true->G<=j)/\(b1=false->G≠j):=by
     refine⟨fun e=>g1 ?_,fun e=>g2 ?_⟩
     ·rw[e,beq_iff_eq] at hb1;exact UInt8.toNat_inj.1 (by simpa using (Int.ofNat.inj hb1))
     ·rw[e,beq_eq_false_iff_ne] at hb1;intro e2;rw[e2] at hb1;exact hb1 rfl
    clear g1 g2
    by_cases hGj:G<j
    ·rw[if_pos hGj]
     have bl:decide ((G:Int)<0)=false:=by simp
     cases b1
     ·go_wp2
      go_round
      case rel=>exact⟨j+1,by go_num,by omega,by rw[if_pos (by omega)]⟩
      case measure=>simp[intOf];omega
     ·go_wp2
      go_round
      case rel=>exact⟨j+1,by go_num,by omega,by rw[if_pos (by omega)]⟩
      case measure=>simp[intOf];omega
    ·rw[if_neg hGj]
     cases b1
     ·have hne:=hb1'.2 rfl
      go_wp2
      go_round
      case rel=>exact⟨j+1,by go_num,by omega,by rw[if_neg (by omega)]⟩
      case measure=>simp[intOf];omega
     ·have hle:=hb1'.1 rfl
      obtain rfl:G=j:=by omega
      go_wp2
      go_round
      case rel=>exact⟨G+1,by go_num,by omega,by rw[if_pos (by omega)]⟩
      case measure=>simp[intOf];omega
   ·obtain rfl:j=t.size:=by omega
    clear HGA hjt hj
    by_cases hGt:G<t.size
    case neg =>
     rw[if_neg hGt];have hp:ybB (toL t)=(4,[],0):=by unfold ybB;rw[yoI (by rw[HG.out,HTL.out];exact hGt)]
     have hfe:=HFE.out;rw[hp,if_pos (by decide)] at hfe;cases hfe
     clear hp;go_wp2
     go_ret2
     exact⟨_,rfl,PosT.nil _,HBw.out⟩
    rw[if_pos hGt];have hX:(t.extract 0 G).data.toList=(toL t).take G:=by rw[yoE];rfl
    have hY:(t.extract (G+1) t.size).data.toList=(toL t).drop (G+1):=by
     have h4:=HTL.out;rw[yoE,List.take_of_length_le (by show ((toL t).drop (G+1)).length<=_;rw[List.length_drop];omega)];rfl
    have hp:ybB (toL t)=if ygG (t.extract (G+1) t.size).data.toList<0 then (4,[],0) else if yK (t.extract 0 G).data.toList=false then (5,[],0) else (0,(t.extract 0 G).data.toList,ygG (t.extract (G+1) t.size).data.toList):=by
     unfold ybB;rw[yoH (by rw[HG.out,HTL.out];exact hGt),HG.out,hX,hY]
    obtain⟨sd,hsd⟩:∃ sd,ygG (t.extract (G+1) t.size).data.toList=sd:=⟨_,rfl⟩
    have HSd:Hid (yiL (t.extract (G+1) t.size).data.toList yeN 0=sd):=Lh hsd;rw[hsd] at hp
    have hXs:(t.extract 0 G).size<=maxLen:=by
     have h4:(t.extract 0 G).data.toList.length<=t.size:=by rw[hX,List.length_take];have:=HTL.out;omega
     have h5:(t.extract 0 G).data.toList.length=(t.extract 0 G).size:=by simp
     unfold maxLen;omega
    have HXs:=Lh hXs;clear hX hY hsd hXs HG HTL;have gp:(G:Int)+1<=(t.size:Int):=by omega
    go_wp2_with fail
    refine(ygP _ sd wr HSd).mono ?_;rintro e w2 ⟨rfl,hb2⟩;have HO2:Hid (Prow w2 w.heap.size (.slice q D.length c) D):=Lh (own_keep HOw.out hb2);have HP2:Hid (Brow w2 w.heap.size (.slice (some ⟨g,0,none⟩) P.length pc) P):=Lh (own_keep HPw.out hb2);have HB2:=Lh (ya hb2 HBw.out);clear hb2 HOw HPw HBw hcell
    by_cases hs0:sd<0
    ·rw[if_pos hs0] at hp
     have hfe:=HFE.out;rw[hp,if_pos (by decide)] at hfe;cases hfe
     clear hp;go_wp2
     go_ret2
     exact⟨_,rfl,PosT.nil _,HB2.out⟩
    rw[if_neg hs0] at hp;obtain⟨nm,hnm⟩:∃ b,yK (t.extract 0 G).data.toList=b:=⟨_,rfl⟩
    have HNm:=Lh hnm;rw[hnm] at hp;have HPp:=Lh hp;clear hnm hp;go_wp2_with fail
    refine(yb8 _ nm w2 HXs.out HNm).mono ?_;rintro e w3 ⟨rfl,rfl⟩;cases nm
    ·have hp:=HPp.out
     rw[if_pos rfl] at hp;have hfe:=HFE.out;rw[hp,if_pos (by decide)] at hfe;cases hfe
     clear hp;go_wp2
     go_ret2
     exact⟨_,rfl,PosT.nil _,HB2.out⟩
    have hp:=HPp.out;rw[if_neg (by decide)] at hp;have hfe:=HFE.out;rw[hp,if_neg (fun e=>e rfl)] at hfe;simp only at hfe;obtain⟨X,hX⟩:∃ X,t.extract 0 G=X:=⟨_,rfl⟩
    rw[hX] at hfe;obtain⟨dup,hdup⟩:∃ b,D.any (fun p=>decide (p.1=X.data.toList))=b:=⟨_,rfl⟩
    have HDu:Hid ((D.drop 0).any (fun p=>decide (p.1=X.data.toList))=dup):=Lh (by rw[List.drop_zero];exact hdup);rw[hdup] at hfe;have HF2:=Lh hfe;have HX2:=Lh hX;clear hp hfe hdup HFE HPp HNm;go_wp2_with fail
    clear hX
    go_loop [11] (fun jv=>∃ j:Nat,jv=.int .i64 j/\j<=D.length/\(D.drop j).any (fun p=>decide (p.1=X.data.toList))=dup) (fun jv=>D.length-(intOf jv).toNat)
    case atStart=>exact⟨0,rfl,Nat.zero_le _,HDu.out⟩
    case round =>
     obtain⟨j,rfl,hj,hfd⟩:=hrel;clear HDu
     by_cases hjt:j<D.length
     ·obtain⟨A,rfl,q0,-⟩:=HO2.out.pos.get hjt
      rw[List.drop_eq_getElem_cons hjt,List.any_cons] at hfd;obtain⟨u,hu⟩:∃ u,D[j]=u:=⟨_,rfl⟩
      rw[hu] at q0 hfd;obtain⟨Z,hZ⟩:∃ Z,bb u.1=Z:=⟨_,rfl⟩
      rw[hZ] at q0;have hZ2:Z.data.toList=u.1:=by rw[<- hZ]
      have j0:(0:Int)<=(j:Int):=by omega
      have j1:(j:Int)<(D.length:Int):=by omega
      by_cases hux:u.1=X.data.toList
      ·have b1:(Z.toList==X.toList)=true:=by rw[ByteArray.toList_eq,ByteArray.toList_eq,hZ2,beq_iff_eq];exact hux
       have hdt:dup=true:=by rw[<- hfd];simp[hux]
       have hf2:=HF2.out;rw[hdt,if_pos rfl] at hf2;cases hf2
       clear hfd hu hZ hZ2 hux hdt;go_wp2
       go_ret2
       exact⟨_,rfl,PosT.nil _,HB2.out⟩
      ·have b1:(Z.toList==X.toList)=false:=by rw[ByteArray.toList_eq,ByteArray.toList_eq,hZ2,beq_eq_false_iff_ne];exact hux
       have HFd:Hid ((D.drop (j+1)).any (fun p=>decide (p.1=X.data.toList))=dup):=Lh (by rw[<- hfd];simp[hux]);clear hfd hu hZ hZ2 hux;go_wp2
       go_round
       case rel=>exact⟨j+1,by go_num,by omega,HFd.out⟩
       case measure=>simp[intOf];omega
     ·obtain rfl:j=D.length:=by omega
      rw[List.drop_length] at hfd;have hdt:dup=false:=by rw[<- hfd];rfl
      have hf2:=HF2.out;rw[hdt,if_neg (by decide)] at hf2;clear hfd hdt
      by_cases h8:D.length=8
      ·rw[if_pos h8] at hf2
       cases hf2
       have b8:((D.length:Int)==8)=true:=by rw[h8];rfl
       go_wp2
       go_ret2
       exact⟨_,rfl,PosT.nil _,HB2.out⟩
      ·rw[if_neg h8] at hf2
       have b8:((D.length:Int)==8)=false:=by rw[beq_eq_false_iff_ne];omega
       have HF3:=Lh hf2;clear hf2 HF2;go_wp2_with fail
       refine(ygP _ sd w2 HSd).mono ?_;rintro e w4 ⟨rfl,hb4⟩;have HO4:Hid (Prow w4 w.heap.size (.slice q D.length c) D):=Lh (own_keep HO2.out hb4);have HP4:Hid (Brow w4 w.heap.size (.slice (some ⟨g,0,none⟩) P.length pc) P):=Lh (own_keep HP2.out hb4);have HB4:=Lh (ya hb4 HB2.out);have hd4:D.length<=1000000:=by omega
       have hg4:w.heap.size<=w4.heap.size:=HB4.out.size;clear hb4 HO2 HP2 HB2
       go_wp2_with (at_builtin;refine ys4 rfl (.tmp 75) (.tmp 83) rfl w.heap.size _ D X sd _ rfl rfl rfl HO4 hd4 hg4 ?_;intro oz cz wz own7 grow7;have HOz:=Lh own7;have HGz:=Lh grow7;clear own7 grow7)
       have HPz:Hid (Brow wz w.heap.size (.slice (some ⟨g,0,none⟩) P.length pc) P):=Lh (World.ownsRow.kept HP4.out HGz.out (yrx HP4.out HO4.out (by decide)));have HLz:Hid (Below w.heap.size w wz):=Lh (yak HB4.out HGz.out (fun p hp=>(World.ownsRow.lt HO4.out p hp).1) hg4);have hlz:(D++[(X.data.toList,sd)]).length=D.length+1:=by simp
       go_roundw
       case rel=>exact⟨k+1,D++[(X.data.toList,sd)],oz,cz,by rw[hlz],by go_num,by omega,by rw[hlz];omega,HF3.out,by rw[hlz];exact HOz.out,HPz.out,HLz.out⟩
       case measure=>simp[intOf];omega
theorem ymi (s:ByteArray)(l:List Pt)(e0:Int)(w:World)(hs:s.size<=20000)(hr:Hid (yaQ s.data.toList=(l,e0))) :
    Calls Tryz.prog 171 #[.string s] w fun e w'=>∃ v,e=.returned (.tuple #[v,.int .i64 e0])/\Pos w' v l/\Below w.heap.size w w' :=
 (ydV s l e0 w hs hr).mono fun _ _ ⟨v,h1,h2,h3⟩=>⟨v,h1,h2.pos,h3⟩
theorem ykQ (k:Int)(c:List UInt8):(yo k c).form=0\/(yo k c).form=1\/(yo k c).form=2\/(yo k c).form=3\/(yo k c).form=4\/(yo k c).form=5:=by
 have h:=yfW k c;simp only at h;omega
theorem ydh (x:List UInt8):(bb x).size=x.length:=by simp[ByteArray.size]
theorem yoJ (x:List UInt8)(i:Nat)(h:i<x.length):(x.take (i+1)).all yar=((x.take i).all yar&&yar x[i]):=by
 rw[List.take_succ_eq_append_getElem h,List.all_append];simp
theorem yoK (k:Int)(a1 a2:List UInt8)(lo hi no:Int)(w:World)(hg:Hid (yaY k=true))(HX:Hid (yo k (bb a1).data.toList=⟨0,lo,hi,no⟩)) :
    Calls Tryz.prog 167 #[.int .i64 k,.agg #[.string (bb a1),.string (bb a2)]] w fun e w'=>e=.returned (.int .i64 5)/\Below w.heap.size w w':=by
 have HB0:=Lh (al1 w (.cells #[.string (bb a1),.string (bb a2)] 69));have HK0:=Lh (yl w #[.string (bb a1),.string (bb a2)] 69);have hk:=hg.out;unfold yaY at hk;obtain⟨b1,hb1⟩:∃ b,(k != 1)=b:=⟨_,rfl⟩
 obtain⟨b2,hb2⟩:∃ b,(k != 2)=b:=⟨_,rfl⟩
 have h4:b1=true->b2=true->(k != 4)=false:=by
  intro e1 e2;rw[e1,bne_iff_ne] at hb1;rw[e2,bne_iff_ne] at hb2
  by_cases e4:k=4
  ·rw[e4];rfl
  ·simp[hb1,hb2,e4] at hk
 have hk4:∃ b4,(k != 4)=b4/\(b1=true->b2=true->b4=false):=⟨_,rfl,h4⟩
 obtain⟨b4,hb4,h4⟩:=hk4;have hp:((b1&&b2)&&b4)=false:=by cases b1 <;> cases b2 <;> simp_all
 clear hk hg;cases b1
 case' true=>cases b2
 case' true.true=>have b4f:=h4 rfl rfl;rw[b4f] at hb4
 all_goals
  clear h4 hp;go_enter func167,ntmps167;go_wp2_with fail
  refine(yaU k (bb a1) 0 lo hi no _ HX).mono ?_;rintro e w1 ⟨rfl,hb1⟩;have HB1:=Lh (ya hb1 HB0.out);have hk1:blk w1 w.heap.size 69 #[.string (bb a1),.string (bb a2)]:=ym HK0.out hb1;have hal:=al1 w1 (.cells #[.int .i64 0,.int .i64 lo,.int .i64 hi,.int .i64 no] 241);have HK2:=Lh (ym hk1 hal);have HB2:=Lh (ya hal HB1.out);have HR2:Hid (ruB (w1.alloc (.cells #[.int .i64 0,.int .i64 lo,.int .i64 hi,.int .i64 no] 241)) w1.heap.size 0 lo hi no):=Lh (yl w1 _ _);obtain⟨c0,c1,c2,c3,-,-,-,-⟩:=HR2.out.cells;have f1:=bc 1 HK2.out;clear hb1 hk1 hal;go_wp2;go_ret;exact⟨rfl,HB2.out⟩
theorem ymj (k:Int)(a1 a2:List UInt8)(lo hi no:Int)(hl:32<a2.length)(hm:a2.length<=20000)(w:World)(hg:Hid (yaY k=true))(HX:Hid (yo k (bb a1).data.toList=⟨1,lo,hi,no⟩)) :
    Calls Tryz.prog 167 #[.int .i64 k,.agg #[.string (bb a1),.string (bb a2)]] w fun e w'=>e=.returned (.int .i64 2)/\Below w.heap.size w w':=by
 have HB0:=Lh (al1 w (.cells #[.string (bb a1),.string (bb a2)] 69));have HK0:=Lh (yl w #[.string (bb a1),.string (bb a2)] 69);have hk:=hg.out;unfold yaY at hk;obtain⟨b1,hb1⟩:∃ b,(k != 1)=b:=⟨_,rfl⟩
 obtain⟨b2,hb2⟩:∃ b,(k != 2)=b:=⟨_,rfl⟩
 have h4:b1=true->b2=true->(k != 4)=false:=by
  intro e1 e2;rw[e1,bne_iff_ne] at hb1;rw[e2,bne_iff_ne] at hb2
  by_cases e4:k=4
  ·rw[e4];rfl
  ·simp[hb1,hb2,e4] at hk
 have hk4:∃ b4,(k != 4)=b4/\(b1=true->b2=true->b4=false):=⟨_,rfl,h4⟩
 obtain⟨b4,hb4,h4⟩:=hk4;have hp:((b1&&b2)&&b4)=false:=by cases b1 <;> cases b2 <;> simp_all
 clear hk hg;cases b1
 case' true=>cases b2
 case' true.true=>have b4f:=h4 rfl rfl;rw[b4f] at hb4
 all_goals
  clear h4 hp;go_enter func167,ntmps167;go_wp2_with fail
  refine(yaU k (bb a1) 1 lo hi no _ HX).mono ?_;rintro e w1 ⟨rfl,hb1⟩;have HB1:=Lh (ya hb1 HB0.out);have hk1:blk w1 w.heap.size 69 #[.string (bb a1),.string (bb a2)]:=ym HK0.out hb1;have hal:=al1 w1 (.cells #[.int .i64 1,.int .i64 lo,.int .i64 hi,.int .i64 no] 241);have HK2:=Lh (ym hk1 hal);have HB2:=Lh (ya hal HB1.out);have HR2:Hid (ruB (w1.alloc (.cells #[.int .i64 1,.int .i64 lo,.int .i64 hi,.int .i64 no] 241)) w1.heap.size 1 lo hi no):=Lh (yl w1 _ _);obtain⟨c0,c1,c2,c3,-,-,-,-⟩:=HR2.out.cells;have f1:=bc 1 HK2.out;clear hb1 hk1 hal;have bs:decide ((32:Int)<((bb a2).size:Int))=true:=by rw[ydh];simp;omega
  go_wp2;go_ret;exact⟨rfl,HB2.out⟩
theorem yoL (k:Int)(a1 a2:List UInt8)(lo hi no:Int)(hl:a2.length<=32)(r:Bool)(hr:Hid (a2.all yar=r))(w:World)(hg:Hid (yaY k=true))(HX:Hid (yo k (bb a1).data.toList=⟨1,lo,hi,no⟩)) :
    Calls Tryz.prog 167 #[.int .i64 k,.agg #[.string (bb a1),.string (bb a2)]] w fun e w'=>e=.returned (.int .i64 (if r then 0 else 7))/\Below w.heap.size w w':=by
 have HB0:=Lh (al1 w (.cells #[.string (bb a1),.string (bb a2)] 69));have HK0:=Lh (yl w #[.string (bb a1),.string (bb a2)] 69);have hk:=hg.out;unfold yaY at hk;obtain⟨b1,hb1⟩:∃ b,(k != 1)=b:=⟨_,rfl⟩
 obtain⟨b2,hb2⟩:∃ b,(k != 2)=b:=⟨_,rfl⟩
 have h4:b1=true->b2=true->(k != 4)=false:=by
  intro e1 e2;rw[e1,bne_iff_ne] at hb1;rw[e2,bne_iff_ne] at hb2
  by_cases e4:k=4
  ·rw[e4];rfl
  ·simp[hb1,hb2,e4] at hk
 have hk4:∃ b4,(k != 4)=b4/\(b1=true->b2=true->b4=false):=⟨_,rfl,h4⟩
 obtain⟨b4,hb4,h4⟩:=hk4;have hp:((b1&&b2)&&b4)=false:=by cases b1 <;> cases b2 <;> simp_all
 clear hk hg;cases b1
 case' true=>cases b2
 case' true.true=>have b4f:=h4 rfl rfl;rw[b4f] at hb4
 all_goals
  clear h4 hp;go_enter func167,ntmps167;go_wp2_with fail
  refine(yaU k (bb a1) 1 lo hi no _ HX).mono ?_;rintro e w1 ⟨rfl,hb1⟩;have HB1:=Lh (ya hb1 HB0.out);have hk1:blk w1 w.heap.size 69 #[.string (bb a1),.string (bb a2)]:=ym HK0.out hb1;have hal:=al1 w1 (.cells #[.int .i64 1,.int .i64 lo,.int .i64 hi,.int .i64 no] 241);have HK2:=Lh (ym hk1 hal);have HB2:=Lh (ya hal HB1.out);have HR2:Hid (ruB (w1.alloc (.cells #[.int .i64 1,.int .i64 lo,.int .i64 hi,.int .i64 no] 241)) w1.heap.size 1 lo hi no):=Lh (yl w1 _ _);obtain⟨c0,c1,c2,c3,-,-,-,-⟩:=HR2.out.cells;have f1:=bc 1 HK2.out;clear hb1 hk1 hal;have bs:decide ((32:Int)<((bb a2).size:Int))=false:=by rw[ydh];simp;omega
  have hsz:(bb a2).size=a2.length:=ydh a2;go_wp2_with fail
  go_loop [6,7] (fun ov iv=>∃ i:Nat,iv=.int .i64 i/\i<=a2.length/\ov=.bool ((a2.take i).all yar)) (fun _ iv=>a2.length-(intOf iv).toNat)
  case atStart=>exact⟨0,rfl,Nat.zero_le _,by simp⟩
  case round =>
   obtain⟨i,rfl,hi,rfl⟩:=hrel
   by_cases hlt:i<a2.length
   ·have hs:=yoJ a2 i hlt
    obtain⟨al,hal⟩:∃ b,(a2.take i).all yar=b:=⟨_,rfl⟩
    obtain⟨u1,hu1⟩:∃ b,decide ((32:Int)<=((bb a2)[i]'(by omega)).toNat)=b:=⟨_,rfl⟩
    obtain⟨u2,hu2⟩:∃ b,decide ((((bb a2)[i]'(by omega)).toNat:Int)<=126)=b:=⟨_,rfl⟩
    have hpl:yar a2[i]=(u1&&u2):=by
     have e:(bb a2)[i]'(by omega)=a2[i]:=by simp[bb,ByteArray.getElem_eq_getElem_data]
     rw[e] at hu1 hu2;unfold yar;rw[<- hu1,<- hu2]
     by_cases q1:32<=a2[i].toNat <;> by_cases q2:a2[i].toNat<=126 <;> simp[q1,q2] <;> omega
    rw[hal,hpl] at hs;rw[hal];have HS:=Lh hs;clear hs hal hpl;have hii:i<(bb a2).size:=by omega
    cases al <;> cases u1 <;> cases u2
    all_goals
     go_wp2
     go_round
     case rel=>exact⟨i+1,by go_num,by omega,by rw[HS.out];simp⟩
     case measure=>simp[intOf];omega
   ·obtain rfl:i=a2.length:=by omega
    have hrr:=hr.out;rw[List.take_length,hrr];cases r
    ·go_wp2
     go_ret;exact⟨rfl,HB2.out⟩
    ·go_wp2
     go_ret;exact⟨rfl,HB2.out⟩
theorem yoM (k:Int)(a1 a2:List UInt8)(lo hi no:Int)(hm:a2.length<=20000)(n:Int)(r:Bool)(hr:Hid (yeM ⟨2,lo,hi,no⟩ a2=(n,r)))(w:World)(hg:Hid (yaY k=true))(HX:Hid (yo k (bb a1).data.toList=⟨2,lo,hi,no⟩)) :
    Calls Tryz.prog 167 #[.int .i64 k,.agg #[.string (bb a1),.string (bb a2)]] w fun e w'=>e=.returned (.int .i64 (if r then 0 else 7))/\Below w.heap.size w w':=by
 have HB0:=Lh (al1 w (.cells #[.string (bb a1),.string (bb a2)] 69));have HK0:=Lh (yl w #[.string (bb a1),.string (bb a2)] 69);have hk:=hg.out;unfold yaY at hk;obtain⟨b1,hb1⟩:∃ b,(k != 1)=b:=⟨_,rfl⟩
 obtain⟨b2,hb2⟩:∃ b,(k != 2)=b:=⟨_,rfl⟩
 have h4:b1=true->b2=true->(k != 4)=false:=by
  intro e1 e2;rw[e1,bne_iff_ne] at hb1;rw[e2,bne_iff_ne] at hb2
  by_cases e4:k=4
  ·rw[e4];rfl
  ·simp[hb1,hb2,e4] at hk
 have hk4:∃ b4,(k != 4)=b4/\(b1=true->b2=true->b4=false):=⟨_,rfl,h4⟩
 obtain⟨b4,hb4,h4⟩:=hk4;have hp:((b1&&b2)&&b4)=false:=by cases b1 <;> cases b2 <;> simp_all
 clear hk hg;cases b1
 case' true=>cases b2
 case' true.true=>have b4f:=h4 rfl rfl;rw[b4f] at hb4
 all_goals
  clear h4 hp;go_enter func167,ntmps167;go_wp2_with fail
  refine(yaU k (bb a1) 2 lo hi no _ HX).mono ?_;rintro e w1 ⟨rfl,hb1⟩;have HB1:=Lh (ya hb1 HB0.out);have hk1:blk w1 w.heap.size 69 #[.string (bb a1),.string (bb a2)]:=ym HK0.out hb1;have hal:=al1 w1 (.cells #[.int .i64 2,.int .i64 lo,.int .i64 hi,.int .i64 no] 241);have HK2:=Lh (ym hk1 hal);have HB2:=Lh (ya hal HB1.out);have HR2:Hid (ruB (w1.alloc (.cells #[.int .i64 2,.int .i64 lo,.int .i64 hi,.int .i64 no] 241)) w1.heap.size 2 lo hi no):=Lh (yl w1 _ _);obtain⟨c0,c1,c2,c3,-,-,-,-⟩:=HR2.out.cells;have f1:=bc 1 HK2.out;clear hb1 hk1 hal;go_wp2_with fail
  generalize w1.alloc (.cells #[.int .i64 2,.int .i64 lo,.int .i64 hi,.int .i64 no] 241)=w2 at HK2 HB2 HR2 c0 c1 c2 c3 f1 |-;generalize w1.heap.size=G at HR2 c0 c1 c2 c3 |-;refine(ydy 2 lo hi no (bb a2) n r w2 (by rw[ydh];exact hm) hr).mono ?_;rintro e w4 ⟨rfl,hb4⟩;have HB4:=Lh (ya hb4 HB2.out);have HK4:=Lh (ym HK2.out hb4);have HR4:Hid (ruB w4 G 2 lo hi no):=Lh (ym HR2.out hb4);clear hb4 c0 c1 c2 c3 f1 HB2 HK2 HR2;obtain⟨c0,c1,c2,c3,-,-,-,-⟩:=HR4.out.cells;have f1:=bc 1 HK4.out;cases r
  ·go_wp2
   go_ret;exact⟨rfl,HB4.out⟩
  ·go_wp2
   go_ret;exact⟨rfl,HB4.out⟩
theorem yoN (k:Int)(a1 a2:List UInt8)(lo hi no:Int)(hm:a2.length<=20000)(n:Int)(r:Bool)(hr:Hid (yeM ⟨3,lo,hi,no⟩ a2=(n,r)))(w:World)(hg:Hid (yaY k=true))(HX:Hid (yo k (bb a1).data.toList=⟨3,lo,hi,no⟩)) :
    Calls Tryz.prog 167 #[.int .i64 k,.agg #[.string (bb a1),.string (bb a2)]] w fun e w'=>e=.returned (.int .i64 (if r then 0 else 7))/\Below w.heap.size w w':=by
 have HB0:=Lh (al1 w (.cells #[.string (bb a1),.string (bb a2)] 69));have HK0:=Lh (yl w #[.string (bb a1),.string (bb a2)] 69);have hk:=hg.out;unfold yaY at hk;obtain⟨b1,hb1⟩:∃ b,(k != 1)=b:=⟨_,rfl⟩
 obtain⟨b2,hb2⟩:∃ b,(k != 2)=b:=⟨_,rfl⟩
 have h4:b1=true->b2=true->(k != 4)=false:=by
  intro e1 e2;rw[e1,bne_iff_ne] at hb1;rw[e2,bne_iff_ne] at hb2
  by_cases e4:k=4
  ·rw[e4];rfl
  ·simp[hb1,hb2,e4] at hk
 have hk4:∃ b4,(k != 4)=b4/\(b1=true->b2=true->b4=false):=⟨_,rfl,h4⟩
 obtain⟨b4,hb4,h4⟩:=hk4;have hp:((b1&&b2)&&b4)=false:=by cases b1 <;> cases b2 <;> simp_all
 clear hk hg;cases b1
 case' true=>cases b2
 case' true.true=>have b4f:=h4 rfl rfl;rw[b4f] at hb4
 all_goals
  clear h4 hp;go_enter func167,ntmps167;go_wp2_with fail
  refine(yaU k (bb a1) 3 lo hi no _ HX).mono ?_;rintro e w1 ⟨rfl,hb1⟩;have HB1:=Lh (ya hb1 HB0.out);have hk1:blk w1 w.heap.size 69 #[.string (bb a1),.string (bb a2)]:=ym HK0.out hb1;have hal:=al1 w1 (.cells #[.int .i64 3,.int .i64 lo,.int .i64 hi,.int .i64 no] 241);have HK2:=Lh (ym hk1 hal);have HB2:=Lh (ya hal HB1.out);have HR2:Hid (ruB (w1.alloc (.cells #[.int .i64 3,.int .i64 lo,.int .i64 hi,.int .i64 no] 241)) w1.heap.size 3 lo hi no):=Lh (yl w1 _ _);obtain⟨c0,c1,c2,c3,-,-,-,-⟩:=HR2.out.cells;have f1:=bc 1 HK2.out;clear hb1 hk1 hal;go_wp2_with fail
  generalize w1.alloc (.cells #[.int .i64 3,.int .i64 lo,.int .i64 hi,.int .i64 no] 241)=w2 at HK2 HB2 HR2 c0 c1 c2 c3 f1 |-;generalize w1.heap.size=G at HR2 c0 c1 c2 c3 |-;refine(ydy 3 lo hi no (bb a2) n r w2 (by rw[ydh];exact hm) hr).mono ?_;rintro e w4 ⟨rfl,hb4⟩;have HB4:=Lh (ya hb4 HB2.out);have HK4:=Lh (ym HK2.out hb4);have HR4:Hid (ruB w4 G 3 lo hi no):=Lh (ym HR2.out hb4);clear hb4 c0 c1 c2 c3 f1 HB2 HK2 HR2;obtain⟨c0,c1,c2,c3,-,-,-,-⟩:=HR4.out.cells;have f1:=bc 1 HK4.out;cases r
  ·go_wp2
   go_ret;exact⟨rfl,HB4.out⟩
  ·go_wp2
   go_ret;exact⟨rfl,HB4.out⟩
theorem yoO (k:Int)(a1 a2:List UInt8)(lo hi no:Int)(hm:a2.length<=20000)(l:List Pt)(e0:Int)(hr:Hid (yaQ a2=(l,e0)))(q:Bool)(hq:Hid ((decide (e0=0)&&decide (a2.length<=32))=q))(w:World)(hg:Hid (yaY k=true))(HX:Hid (yo k (bb a1).data.toList=⟨4,lo,hi,no⟩)) :
    Calls Tryz.prog 167 #[.int .i64 k,.agg #[.string (bb a1),.string (bb a2)]] w fun e w'=>e=.returned (.int .i64 (if q then 0 else 7))/\Below w.heap.size w w':=by
 have HB0:=Lh (al1 w (.cells #[.string (bb a1),.string (bb a2)] 69));have HK0:=Lh (yl w #[.string (bb a1),.string (bb a2)] 69);have hk:=hg.out;unfold yaY at hk;obtain⟨b1,hb1⟩:∃ b,(k != 1)=b:=⟨_,rfl⟩
 obtain⟨b2,hb2⟩:∃ b,(k != 2)=b:=⟨_,rfl⟩
 have h4:b1=true->b2=true->(k != 4)=false:=by
  intro e1 e2;rw[e1,bne_iff_ne] at hb1;rw[e2,bne_iff_ne] at hb2
  by_cases e4:k=4
  ·rw[e4];rfl
  ·simp[hb1,hb2,e4] at hk
 have hk4:∃ b4,(k != 4)=b4/\(b1=true->b2=true->b4=false):=⟨_,rfl,h4⟩
 obtain⟨b4,hb4,h4⟩:=hk4;have hp:((b1&&b2)&&b4)=false:=by cases b1 <;> cases b2 <;> simp_all
 clear hk hg;cases b1
 case' true=>cases b2
 case' true.true=>have b4f:=h4 rfl rfl;rw[b4f] at hb4
 all_goals
  clear h4 hp;go_enter func167,ntmps167;go_wp2_with fail
  refine(yaU k (bb a1) 4 lo hi no _ HX).mono ?_;rintro e w1 ⟨rfl,hb1⟩;have HB1:=Lh (ya hb1 HB0.out);have hk1:blk w1 w.heap.size 69 #[.string (bb a1),.string (bb a2)]:=ym HK0.out hb1;have hal:=al1 w1 (.cells #[.int .i64 4,.int .i64 lo,.int .i64 hi,.int .i64 no] 241);have HK2:=Lh (ym hk1 hal);have HB2:=Lh (ya hal HB1.out);have HR2:Hid (ruB (w1.alloc (.cells #[.int .i64 4,.int .i64 lo,.int .i64 hi,.int .i64 no] 241)) w1.heap.size 4 lo hi no):=Lh (yl w1 _ _);obtain⟨c0,c1,c2,c3,-,-,-,-⟩:=HR2.out.cells;have f1:=bc 1 HK2.out;clear hb1 hk1 hal;obtain⟨q1,hq1⟩:∃ b,(e0==0)=b:=⟨_,rfl⟩
  obtain⟨q2,hq2⟩:∃ b,decide ((a2.length:Int)<=32)=b:=⟨_,rfl⟩
  have e1:decide (e0=0)=q1:=by rw[<- hq1];by_cases e:e0=0 <;> simp[e]
  have e2:decide (a2.length<=32)=q2:=by rw[<- hq2];by_cases e:a2.length<=32 <;> simp[e] <;> omega
  have HQ:Hid ((q1&&q2)=q):=Lh (by rw[<- e1,<- e2];exact hq.out);clear e1 e2 hq;go_wp2_with fail
  generalize w1.alloc (.cells #[.int .i64 4,.int .i64 lo,.int .i64 hi,.int .i64 no] 241)=w2 at HK2 HB2 HR2 c0 c1 c2 c3 f1 |-;generalize w1.heap.size=G at HR2 c0 c1 c2 c3 |-;refine(ymi (bb a2) l e0 w2 (by rw[ydh];exact hm) hr).mono ?_;rintro e w4 ⟨v4,rfl,-,hb4⟩;have HB4:=Lh (ya hb4 HB2.out);have HK4:=Lh (ym HK2.out hb4);have HR4:Hid (ruB w4 G 4 lo hi no):=Lh (ym HR2.out hb4);clear hb4 c0 c1 c2 c3 f1 HB2 HK2 HR2;obtain⟨c0,c1,c2,c3,-,-,-,-⟩:=HR4.out.cells;have f1:=bc 1 HK4.out;cases q1
  ·have hz:q=false:=by rw[<- HQ.out];rfl
   subst hz;go_wp2;go_ret;exact⟨rfl,HB4.out⟩
  ·have hz:q=q2:=by rw[<- HQ.out];rfl
   subst hz;cases q
   ·go_wp2
    go_ret;exact⟨rfl,HB4.out⟩
   ·go_wp2
    go_ret;exact⟨rfl,HB4.out⟩
theorem yoP (k:Int)(a1 a2:List UInt8)(lo hi no:Int)(n:Int)(hr:Hid (yiL (bb a2).data.toList ya6 0=n))(q:Bool)(hq:Hid (decide (0<=n)=q))(w:World)(hg:Hid (yaY k=true))(HX:Hid (yo k (bb a1).data.toList=⟨5,lo,hi,no⟩)) :
    Calls Tryz.prog 167 #[.int .i64 k,.agg #[.string (bb a1),.string (bb a2)]] w fun e w'=>e=.returned (.int .i64 (if q then 0 else 7))/\Below w.heap.size w w':=by
 have HB0:=Lh (al1 w (.cells #[.string (bb a1),.string (bb a2)] 69));have HK0:=Lh (yl w #[.string (bb a1),.string (bb a2)] 69);have hk:=hg.out;unfold yaY at hk;obtain⟨b1,hb1⟩:∃ b,(k != 1)=b:=⟨_,rfl⟩
 obtain⟨b2,hb2⟩:∃ b,(k != 2)=b:=⟨_,rfl⟩
 have h4:b1=true->b2=true->(k != 4)=false:=by
  intro e1 e2;rw[e1,bne_iff_ne] at hb1;rw[e2,bne_iff_ne] at hb2
  by_cases e4:k=4
  ·rw[e4];rfl
  ·simp[hb1,hb2,e4] at hk
 have hk4:∃ b4,(k != 4)=b4/\(b1=true->b2=true->b4=false):=⟨_,rfl,h4⟩
 obtain⟨b4,hb4,h4⟩:=hk4;have hp:((b1&&b2)&&b4)=false:=by cases b1 <;> cases b2 <;> simp_all
 clear hk hg;cases b1
 case' true=>cases b2
 case' true.true=>have b4f:=h4 rfl rfl;rw[b4f] at hb4
 all_goals
  clear h4 hp;go_enter func167,ntmps167;go_wp2_with fail
  refine(yaU k (bb a1) 5 lo hi no _ HX).mono ?_;rintro e w1 ⟨rfl,hb1⟩;have HB1:=Lh (ya hb1 HB0.out);have hk1:blk w1 w.heap.size 69 #[.string (bb a1),.string (bb a2)]:=ym HK0.out hb1;have hal:=al1 w1 (.cells #[.int .i64 5,.int .i64 lo,.int .i64 hi,.int .i64 no] 241);have HK2:=Lh (ym hk1 hal);have HB2:=Lh (ya hal HB1.out);have HR2:Hid (ruB (w1.alloc (.cells #[.int .i64 5,.int .i64 lo,.int .i64 hi,.int .i64 no] 241)) w1.heap.size 5 lo hi no):=Lh (yl w1 _ _);obtain⟨c0,c1,c2,c3,-,-,-,-⟩:=HR2.out.cells;have f1:=bc 1 HK2.out;clear hb1 hk1 hal;have hq1:=hq.out;clear hq;go_wp2_with fail
  generalize w1.alloc (.cells #[.int .i64 5,.int .i64 lo,.int .i64 hi,.int .i64 no] 241)=w2 at HK2 HB2 HR2 c0 c1 c2 c3 f1 |-;generalize w1.heap.size=G at HR2 c0 c1 c2 c3 |-;refine(yoF (bb a2) n w2 hr).mono ?_;rintro e w4 ⟨rfl,hb4⟩;have HB4:=Lh (ya hb4 HB2.out);have HK4:=Lh (ym HK2.out hb4);have HR4:Hid (ruB w4 G 5 lo hi no):=Lh (ym HR2.out hb4);clear hb4 c0 c1 c2 c3 f1 HB2 HK2 HR2;obtain⟨c0,c1,c2,c3,-,-,-,-⟩:=HR4.out.cells;have f1:=bc 1 HK4.out;cases q
  ·go_wp2
   go_ret;exact⟨rfl,HB4.out⟩
  ·go_wp2
   go_ret;exact⟨rfl,HB4.out⟩
theorem ykR (k:Int)(a1 a2:List UInt8)(w:World)(hg:Hid (yaY k=false)) :
    Calls Tryz.prog 167 #[.int .i64 k,.agg #[.string (bb a1),.string (bb a2)]] w fun e w'=>e=.returned (.int .i64 1)/\Below w.heap.size w w':=by
 have HB0:=Lh (al1 w (.cells #[.string (bb a1),.string (bb a2)] 69));have HK0:=Lh (yl w #[.string (bb a1),.string (bb a2)] 69);have hk:=hg.out;unfold yaY at hk;simp only[Bool.or_eq_false_iff,decide_eq_false_iff_not] at hk;have b1:(k != 1)=true:=by rw[bne_iff_ne];exact hk.1.1
 have b2:(k != 2)=true:=by rw[bne_iff_ne];exact hk.1.2
 have b4:(k != 4)=true:=by rw[bne_iff_ne];exact hk.2
 clear hk hg;go_enter func167,ntmps167;go_wp2;go_ret;exact⟨rfl,HB0.out⟩
end Go.Proofs.YtgmidodmmlmmeaaGreatDoor.att
