package tests

// shortTexts returns all texts of at most four of the bytes.
func shortTexts(bytes string) []string {
	texts := []string{""}
	for first := 0; first < len(texts); first++ {
		if len(texts[first]) < 4 {
			for i := range len(bytes) {
				texts = append(texts, texts[first]+bytes[i:i+1])
			}
		}
	}
	return texts
}
