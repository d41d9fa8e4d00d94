package sill_test

import (
	"fmt"

	"sill/api"
	"sill/sill"
)

func Example() {
	b, e := sill.Frame(api.Item{Kind: api.Event, Key: "a", Time: 3, Value: 7, Tag: 1})
	fmt.Println(len(b), e)
	i, n, e := sill.Unframe(append(b, "more"...))
	fmt.Println(i, n, e)
	i, n, e = sill.Unframe(b[:5])
	fmt.Println(i, n, e)
	// Output:
	// 26 0
	// {1 a 3 7 1} 26 0
	// {0  0 0 0} 0 0
}

func ExampleFlow() {
	f, e := sill.New(api.Config{Size: 10, Slide: 5, Late: 2, Keys: 2})
	fmt.Println(e)
	f.Open(0)
	for _, time := range []int64{3, 12, 9} {
		b, _ := sill.Frame(api.Item{Kind: api.Event, Key: "a", Time: time, Value: 7, Tag: 1})
		f.Feed(0, b[:4])
		f.Feed(0, b[4:])
	}
	fmt.Println(f.Line())
	fmt.Printf("%+v\n", f.Counts())
	for _, w := range f.Take() {
		fmt.Printf("%+v\n", w)
	}
	fmt.Println(len(f.Take()))
	// Output:
	// 0
	// 10 true
	// {Taken:2 Late:1 Range:0 Full:0 Marks:0 Broken:0}
	// {Key:a Start:-5 Count:1 Sum:7 Min:7 Max:7 Tags:[1]}
	// {Key:a Start:0 Count:1 Sum:7 Min:7 Max:7 Tags:[1]}
	// 0
}
